import Derived.Test.YtiblcbdkiecbgaaGreatDoorM18
set_option linter.unusedVariables false
set_option maxRecDepth 100000
set_option maxHeartbeats 16000000
namespace Go.Proofs.YtiblcbdkiecbgaaGreatDoor
open Go.RowKit Go.Lib Go.Maps
theorem becomeL_len(l:LineS):(becomeL l).2.length<=l.nodes.length:=by
 rw [<-toldL_all];exact toldL_len l _
open Classical in
noncomputable def HLay.addT(y:HLay)(w:World)(tv:Value)(b:Nat)(av:Value):HLay:=
 { y with tv:=tv,tbs:=y.tbs++[b],tav:=fun x=>if x=b then av else y.tav x,twv:=fun x=>if x=b then (.slice none 0 0) else y.twv x,own:=fun x=>if w.heap.size<=x/\tv.ownBlock=some x then .trow else if w.heap.size<=x/\(x=b\/av.ownBlock=some x) then .tx b else y.own x }
theorem addT_old(y:HLay)(w:World)(tv:Value)(b:Nat)(av:Value){x:Nat}(h:x<w.heap.size):(y.addT w tv b av).own x=y.own x:=by
 simp only [HLay.addT]
 rw [if_neg (fun e=>by omega),if_neg (fun e=>by omega)]
theorem HouseP.addT{w w':World}{n c g:Nat}{y:HLay}{s:HouseS}(h:HouseP w n c g y s){tv av:Value}{b:Nat}
  (hm:Mod (fun z=>z=g\/y.tv.ownBlock=some z) w w') (hB:Blk w' g [y.lv,.map (some y.dr),y.wv,.int .i64 s.net.lost,.map y.mr,.map y.q.m,tv] 159) (hr:w'.ownsRow n 162 1 tv (y.tbs.length+1) ((y.tbs++[b]).map ptrV))
  (hb:w.heap.size<=b) (hT:Blk w' b [.int .i64 1,av,.slice none 0 0,.int .i64 0] 166) (ha:w'.ownsRow n 3 1 av s.lines.length ((List.replicate s.lines.length (0:Int)).map (Value.int .i64))) (hav:∀ k,av.ownBlock=some k->w.heap.size<=k) (h1:Moved w y.tv tv) (hn:n<=w.heap.size) :
  HouseP w' n c g (y.addT w tv b av) (beginH s)/\Steps w y w' (y.addT w tv b av):=by
 have own:=h.own
 have htag:∀ z,(z=g\/y.tv.ownBlock=some z)->y.own z=.main\/y.own z=.trow:=fun z e=>by
  rcases e with e | e
  ·rw [e];exact .inl own.main
  ·exact .inr (own.trow z e)
 have hq:Qm w (y.lo n) (fun z=>z=g\/y.tv.ownBlock=some z):=fun z hz e=>by
  rintro (e1 | ⟨⟨cur,fr,e1⟩,_⟩)
  ·have h8:z<n:=e1
   have:=(own.lt z (by rcases htag z e with q | q <;> rw [q] <;> simp)).1
   omega
  ·rcases e with e | e
   ·subst e
    have:=h.blk
    unfold Blk at this
    rw [this] at e1;simp at e1
   ·obtain ⟨_,_,cur2,h2⟩:=own_cells h.trow e
    rw [h2] at e1;simp at e1
 have ht:Touch w w' n y (fun t=>t=.main\/t=.trow):=⟨⟨_,hm,hq,fun z hz e=>⟨htag z e,by rcases htag z e with q | q <;> rw [q] <;> simp⟩⟩⟩
 have hbn:b∉y.tbs:=fun q=>by have:=(own.lt b (by rw [(own.tx b q).1];simp)).2;omega
 have hlo:(y.addT w tv b av).lo n=y.lo n:=by
  unfold HLay.lo
  congr 1
  funext k
  apply propext
  constructor
  ·rintro ⟨t,ht,hk⟩
   rcases List.mem_append.1 ht with q | q
   ·have hne:t≠b:=fun e=>hbn (by rw [<-e];exact q)
    exact ⟨t,q,by simpa [HLay.addT,hne] using hk⟩
   ·simp at q;subst q
    simp [HLay.addT,Value.ownBlock] at hk
  ·rintro ⟨t,ht,hk⟩
   have hne:t≠b:=fun e=>hbn (by rw [<-e];exact ht)
   exact ⟨t,List.mem_append.2 (.inl ht),by simpa [HLay.addT,hne] using hk⟩
 have hkeep:∀ z,y.own z≠.no->(y.addT w tv b av).own z=y.own z:=fun z hz=>addT_old _ _ _ _ _ (own.lt z hz).2
 have hrow:∀ z,tv.ownBlock=some z->(y.addT w tv b av).own z=.trow:=fun z e=>by
  by_cases hlt:z<w.heap.size
  ·rw [addT_old _ _ _ _ _ hlt]
   rcases h1 with q | q
   ·exact own.trow z (by rw [<-q];exact e)
   ·have:=q z e;omega
  ·simp only [HLay.addT];rw [if_pos ⟨by omega,e⟩]
 have hnt:∀ z,z=b\/av.ownBlock=some z->tv.ownBlock≠some z:=fun z e q=>by
  obtain ⟨_,_,cur,hcur⟩:=own_cells hr q
  rcases e with e | e
  ·subst e
   unfold Blk at hT
   rw [hcur] at hT;simp at hT
  ·obtain ⟨_,_,cur2,h2⟩:=own_cells ha e
   rw [hcur] at h2;simp at h2
 have hnew:∀ z,z=b\/av.ownBlock=some z->(y.addT w tv b av).own z=.tx b:=fun z e=>by
  simp only [HLay.addT]
  rw [if_neg (fun q=>hnt z e q.2),if_pos ⟨e.elim (fun e=>by omega) (hav z),e⟩]
 have eB:(y.addT w tv b av).tav b=av/\(y.addT w tv b av).twv b=.slice none 0 0:=by simp [HLay.addT]
 have eN:∀ {x},x≠b->(y.addT w tv b av).tav x=y.tav x/\(y.addT w tv b av).twv x=y.twv x:=fun {x} hx=>by simp [HLay.addT,hx]
 refine ⟨⟨hB,?_,h.fDead ht (by simp),h.fTab ht (by simp),h.qn,h.fLrow ht (by simp),h.llen,fun k b' l hb' hl=>?_,?_,?_,fun i b' t hb' hti=>?_,?_⟩,?_⟩
 ·have:=h.fNet ht (by simp);rw [hlo];exact this
 ·have q:=h.fLine ht hb' hl (by simp) (fun d _=>by simp)
  refine ⟨q.blk,q.row,q.len,fun j d x hd hx=>?_⟩
  have:=q.node j d x hd hx
  unfold NodeQ at this ⊢
  rw [hlo];exact this
 ·show w'.ownsRow n 162 1 tv (y.tbs++[b]).length ((y.tbs++[b]).map ptrV)
  rw [List.length_append];exact hr
 ·show (y.tbs++[b]).length=(s.txs++[_]).length
  rw [List.length_append,List.length_append,h.tlen];rfl
 ·have hb2:(y.tbs++[b])[i]?=some b':=hb'
  have ht2:(s.txs++[(⟨1,List.replicate s.lines.length 0,[],0⟩:TxS)])[i]?=some t:=hti
  have htl:=h.tlen
  by_cases hlt:i<y.tbs.length
  ·rw [List.getElem?_append_left hlt] at hb2
   rw [List.getElem?_append_left (by omega)] at ht2
   have hne:b'≠b:=fun e=>hbn (by rw [<-e];exact List.mem_of_getElem? hb2)
   have q:=h.fTx ht hb2 ht2 (by simp)
   refine ⟨?_,?_,?_⟩
   ·rw [(eN hne).1,(eN hne).2];exact q.blk
   ·rw [(eN hne).1];exact q.ats
   ·rw [(eN hne).2];exact q.wr
  ·rw [List.getElem?_append_right (by omega)] at hb2 ht2
   have hi:i - y.tbs.length=0:=by
    have:=(List.getElem?_eq_some_iff.1 hb2).1
    simp at this;omega
   rw [hi] at hb2
   rw [show i - s.txs.length=0 by omega] at ht2
   simp at hb2 ht2
   subst hb2 ht2
   refine ⟨?_,?_,?_⟩
   ·rw [eB.1,eB.2];exact hT
   ·rw [eB.1]
    show w'.ownsRow n 3 1 av (List.replicate s.lines.length (0:Int)).length _
    rw [List.length_replicate];exact ha
   ·rw [eB.2];exact World.ownsRow_nil _ _ _ _
 ·refine ⟨by rw [hkeep _ (by rw [own.main];simp)];exact own.main,fun z hz=>?_,fun z hz=>hrow z hz,fun z hz=>?_,?_,fun z hz=>?_,fun b' hb'=>⟨?_,fun z hz=>?_⟩,fun b' hb' d' hd' z hz=>?_,fun b' hb'=>?_,fun z hz=>?_,own.lnd,?_,own.nnd⟩
  ·rw [hkeep z (by rw [own.lrow z hz];simp)];exact own.lrow z hz
  ·rw [hkeep z (by rw [own.net z hz];simp)];exact own.net z hz
  ·show (y.addT w tv b av).own y.dr=_
   rw [hkeep _ (by rw [own.dead];simp)];exact own.dead
  ·rw [hkeep z (by rw [own.tab z hz];simp)];exact own.tab z hz
  ·rw [hkeep b' (by rw [(own.line b' hb').1];simp)];exact (own.line b' hb').1
  ·rw [hkeep z (by rw [(own.line b' hb').2 z hz];simp)];exact (own.line b' hb').2 z hz
  ·have:=own.node b' hb' d' hd' z hz
   rw [hkeep z (by rw [this];simp)];exact this
  ·have hb2:b'∈y.tbs++[b]:=hb'
   rcases List.mem_append.1 hb2 with q | q
   ·have hne:b'≠b:=fun e=>hbn (by rw [<-e];exact q)
    refine ⟨by rw [hkeep b' (by rw [(own.tx b' q).1];simp)];exact (own.tx b' q).1,fun z hz=>?_⟩
    rw [(eN hne).1,(eN hne).2] at hz
    rw [hkeep z (by rw [(own.tx b' q).2 z hz];simp)];exact (own.tx b' q).2 z hz
   ·simp at q;subst q
    refine ⟨hnew b' (.inl rfl),fun z hz=>?_⟩
    rw [eB.1,eB.2] at hz
    rcases hz with hz | hz
    ·exact hnew z (.inr hz)
    ·simp [Value.ownBlock] at hz
  ·by_cases e1:w.heap.size<=z/\tv.ownBlock=some z
   ·exact ⟨(own_cells hr e1.2).1,(own_cells hr e1.2).2.1⟩
   ·by_cases e2:w.heap.size<=z/\(z=b\/av.ownBlock=some z)
    ·refine ⟨by omega,?_⟩
     rcases e2.2 with e | e
     ·subst e;exact hT.lt
     ·exact (own_cells ha e).2.1
    ·have hz3:y.own z≠.no:=by
      simp only [HLay.addT] at hz
      rw [if_neg e1,if_neg e2] at hz;exact hz
     have:=own.lt z hz3
     exact ⟨this.1,Nat.lt_of_lt_of_le this.2 hm.size⟩
  ·show (y.tbs++[b]).Nodup
   rw [List.nodup_append]
   exact ⟨own.tnd,by simp,fun a ha c hc e=>by simp at hc;subst hc;subst e;exact hbn ha⟩
 ·exact ⟨hm.mono (fun z hz e=>by rcases htag z e with q | q <;> rw [q] <;> simp),fun z hz=>addT_old _ _ _ _ _ hz⟩
end Go.Proofs.YtiblcbdkiecbgaaGreatDoor
