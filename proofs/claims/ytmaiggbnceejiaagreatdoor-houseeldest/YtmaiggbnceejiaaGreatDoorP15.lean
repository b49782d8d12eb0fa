import Derived.Test.YtmaiggbnceejiaaGreatDoorP14
set_option linter.unusedVariables false
set_option maxRecDepth 100000
set_option maxHeartbeats 16000000
namespace Go.Proofs.YtmaiggbnceejiaaGreatDoor
open Go.RowKit Go.Lib Go.Maps
theorem du.low{w:World}{n c g:Nat}{y:dX}{s:dW}(h:du w n c g y s):n<=g:=(h.own.lt g (by rw [h.own.main];simp)).1
theorem du.qe{w:World}{n c g:Nat}{y:dX}{s:dW}(h:du w n c g y s):fY y.ext w (y.lo n) g y.wv y.mr s.net:=
 ⟨h.blk,h.low,h.net.row,h.net.dn,h.net.few,h.net.lo,Uy h.own⟩
def dX.tb(y:dX)(g:Nat)(lost:Int):iL:={ y.q with b:=g,pre:=[y.lv,.map (some y.dr),y.wv,.int .i64 lost,.map y.mr],post:=[y.tv],t:=84 }
theorem du.xB{w:World}{n c g:Nat}{y:dX}{s:dW}(h:du w n c g y s):oX w n 120 (y.tb g s.net.lost) s.keys:=
 tK.toP (q:=y.tb g s.net.lost) ⟨h.tab.map,h.tab.hdr,h.tab.rows,h.tab.apart,h.tab.ok,h.tab.few⟩ h.blk (by show 84≠170;decide)
theorem xc.more{w w':World}{n g:Nat}{y:dX}(h:xc w n g y)(hz:w.heap.size<=w'.heap.size):xc w' n g y:={ h with lt:=fun k hk=>⟨(h.lt k hk).1,aG (h.lt k hk).2 hz⟩ }
open Classical in
noncomputable def dX.om(y:dX)(w:World)(wv:Value)(mr:Option Nat):dX:=
 { y with wv:=wv,mr:=mr,own:=fun x=>if w.heap.size<=x/\(wv.ownBlock=some x\/mr=some x) then .net else y.own x }
theorem TO(y:dX)(w:World)(wv:Value)(mr:Option Nat){x:Nat}(h:x<w.heap.size):(y.om w wv mr).own x=y.own x:=by
 simp only [dX.om];rw [aE (fun e=>by omega)]
theorem du.sW{w w':World}{n c g:Nat}{y:dX}{s:dW}(h:du w n c g y s){wv:Value}{mr:Option Nat}{net:ey}
  (hm:Mod (mo g y.wv y.mr) w w') (hN:fY y.ext w' (y.lo n) g wv mr net) (h1:iC w y.wv wv) (h2:mr=y.mr\/∀ k,mr=some k->w.heap.size<=k) :
  du w' n c g (y.om w wv mr) { s with net:=net }/\iD w y w' (y.om w wv mr):=by
 have own:=h.own;have hz:=hm.size;have jR:∀ z,mo g y.wv y.mr z->y.own z=.main\/y.own z=.net:=fun z e=>by
  rcases e with e | e | e
  ·rw [e];exact .inl own.main
  ·exact .inr (own.net z (.inl e))
  ·exact .inr (own.net z (.inr e))
 have ht:rM w w' n y (fun t=>t=.main\/t=.net):=⟨⟨_,hm,fY.qm h.qe,fun z hz e=>⟨jR z e,by rcases jR z e with q | q <;> rw [q] <;> simp⟩⟩⟩;have dv:∀ z,y.own z≠.no->(y.om w wv mr).own z=y.own z:=fun z hz=>TO _ _ _ _ (own.lt z hz).2;have ot:∀ z,wv.ownBlock=some z\/mr=some z->(y.om w wv mr).own z=.net:=fun z e=>by
  by_cases hlt:z<w.heap.size
  ·rw [TO _ _ _ _ hlt];refine own.net z ?_;rcases e with e | e
   ·rcases h1 with q | q
    ·exact .inl (by rw [<-q];exact e)
    ·have:=q z e;omega
   ·rcases h2 with q | q
    ·exact .inr (by rw [<-q];exact e)
    ·have:=q z e;omega
  ·simp only [dX.om];rw [aJ ⟨by omega,e⟩]
 refine ⟨⟨hN.blk,⟨hN.row,hN.dn,hN.few,hN.lo⟩,h.oW ht (by simp),h.tB ht (by simp),h.qn,h.oV ht (by simp),h.iN,fun k b l hb hl=>?_,h.oU ht (by simp),h.kM,fun i b t hb hti=>(have q:=h.DG ht hb hti (by simp);⟨q.blk,q.ats,q.wr⟩),?_⟩,?_⟩
 ·have q:=h.qC ht hb hl (by simp) (fun d _=>by simp);exact ⟨q.blk,q.row,q.len,q.node⟩
 ·refine ⟨by rw [dv _ (by rw [own.main];simp)];exact own.main,fun z hz=>?_,fun z hz=>?_,fun z hz=>ot z hz,?_,fun z hz=>?_,fun b' hb'=>⟨?_,fun z hz=>?_⟩,fun b' hb' d' hd' z hz=>?_,fun b' hb'=>⟨?_,fun z hz=>?_⟩,fun z hz=>?_,own.BC,own.Dy,own.yE⟩
  ·rw [dv z (by rw [own.fm z hz];simp)];exact own.fm z hz
  ·rw [dv z (by rw [own.gR z hz];simp)];exact own.gR z hz
  ·rw [show (y.om w wv mr).dr=y.dr from rfl,dv _ (by rw [own.dead];simp)];exact own.dead
  ·rw [dv z (by rw [own.tab z hz];simp)];exact own.tab z hz
  ·rw [dv b' (by rw [(own.line b' hb').1];simp)];exact (own.line b' hb').1
  ·rw [dv z (by rw [(own.line b' hb').2 z hz];simp)];exact (own.line b' hb').2 z hz
  ·have:=own.node b' hb' d' hd' z hz;rw [dv z (by rw [this];simp)];exact this
  ·rw [dv b' (by rw [(own.tx b' hb').1];simp)];exact (own.tx b' hb').1
  ·rw [dv z (by rw [(own.tx b' hb').2 z hz];simp)];exact (own.tx b' hb').2 z hz
  ·by_cases e:w.heap.size<=z/\(wv.ownBlock=some z\/mr=some z)
   ·obtain ⟨q1,q2,_⟩:=hN.lt (.inr e.2);exact ⟨q1,q2⟩
   ·have hz':y.own z≠.no:=by
     simp only [dX.om] at hz;rw [aE e] at hz;exact hz
    have:=own.lt z hz';exact ⟨this.1,aG this.2 hm.size⟩
 ·exact ⟨hm.mono (fun z hz e=>by rcases jR z e with q | q <;> rw [q] <;> simp),fun z hz=>TO _ _ _ _ hz⟩
open Classical in
noncomputable def dX.pf(y:dX)(w:World)(q:iL):dX:=
 { y with q:=q,own:=fun x=>if w.heap.size<=x/\q.own x then .tab else y.own x }
theorem TM(y:dX)(w:World)(q:iL){x:Nat}(h:x<w.heap.size):(y.pf w q).own x=y.own x:=by
 simp only [dX.pf];rw [aE (fun e=>by omega)]
theorem Fg{w:World}{n N:Nat}{q:iL}{s:fv}(h:oX w n N q s)(ht:q.t=84)(hb:n<=q.b){L:Lo}(hL:L.n=n):Qm w L (fun x=>x=q.b\/q.own x):=fun k hk e=>by
 rintro (e1 | ⟨⟨cur,fr,e1⟩,_⟩)
 ·rcases e with e | e
  ·omega
  ·have:=(h.lt e).1;omega
 ·rcases e with e | e | ⟨z,i,hz,e⟩
  ·subst e;have:=h.blk;unfold dh at this;rw [this,ht] at e1;simp at e1
  ·have hmm:=h.map;unfold qH at hmm;rw [e] at hmm;obtain ⟨_,D,⟨es,clock,h2,_⟩,_⟩:=hmm;rw [h2] at e1;simp at e1
  ·obtain ⟨_,_,cur',h2⟩:=h.old hz id e;rw [h2] at e1;simp at e1
theorem du.Dx{w w':World}{n c c' g N:Nat}{y:dX}{s:dW}(h:du w n c g y s){q:iL}{keys:fv}
  (hm:Mod (fun x=>x=g\/y.q.own x) w w') (hT:oX w' n N q keys) (hb:q.b=g) (hpre:q.pre=(y.tb g s.net.lost).pre) (hpost:q.post=[y.tv]) (hty:q.t=84) (hn:q.n<=c') (hown:∀ x,q.own x->y.q.own x\/w.heap.size<=x) (fW:∀ k,fj k->(keys k).held.length+(keys k).waits.length<=120) :
  du w' n c' g (y.pf w q) { s with keys:=keys }/\iD w y w' (y.pf w q):=by
 have own:=h.own;have jR:∀ z,(z=g\/y.q.own z)->y.own z=.main\/y.own z=.tab:=fun z e=>by
  rcases e with e | e
  ·rw [e];exact .inl own.main
  ·exact .inr (own.tab z e)
 have ht:rM w w' n y (fun t=>t=.main\/t=.tab):=⟨⟨_,hm,Fg (q:=y.tb g s.net.lost) h.xB rfl h.low rfl,fun z hz e=>⟨jR z e,by rcases jR z e with q | q <;> rw [q] <;> simp⟩⟩⟩;have dv:∀ z,y.own z≠.no->(y.pf w q).own z=y.own z:=fun z hz=>TM _ _ _ (own.lt z hz).2;have Wl:∀ z,q.own z->(y.pf w q).own z=.tab:=fun z e=>by
  by_cases hlt:z<w.heap.size
  ·rw [TM _ _ _ hlt];rcases hown z e with e | e
   ·exact own.tab z e
   ·omega
  ·simp only [dX.pf];rw [aJ ⟨by omega,e⟩]
 have hblk:dh w' g (JC (y.pf w q) s.net.lost) 84:=by
  have:=hT.blk;rw [hb,hpre,hpost,hty] at this;exact this
 refine ⟨⟨hblk,?_,h.oW ht (by simp),⟨hT.map,hT.hdr,fun k i hk=>hT.rows k i hk id,hT.apart,hT.ok,fW⟩,⟨hb,hty,hn⟩,h.oV ht (by simp),h.iN,fun k b l hb hl=>?_,h.oU ht (by simp),h.kM,fun i b t hb hti=>(have q:=h.DG ht hb hti (by simp);⟨q.blk,q.ats,q.wr⟩),?_⟩,?_⟩
 ·exact h.vB ht (by simp)
 ·have q:=h.qC ht hb hl (by simp) (fun d _=>by simp);exact ⟨q.blk,q.row,q.len,q.node⟩
 ·refine ⟨by rw [dv _ (by rw [own.main];simp)];exact own.main,fun z hz=>?_,fun z hz=>?_,fun z hz=>?_,?_,fun z hz=>Wl z hz,fun b' hb'=>⟨?_,fun z hz=>?_⟩,fun b' hb' d' hd' z hz=>?_,fun b' hb'=>⟨?_,fun z hz=>?_⟩,fun z hz=>?_,own.BC,own.Dy,own.yE⟩
  ·rw [dv z (by rw [own.fm z hz];simp)];exact own.fm z hz
  ·rw [dv z (by rw [own.gR z hz];simp)];exact own.gR z hz
  ·rw [dv z (by rw [own.net z hz];simp)];exact own.net z hz
  ·rw [show (y.pf w q).dr=y.dr from rfl,dv _ (by rw [own.dead];simp)];exact own.dead
  ·rw [dv b' (by rw [(own.line b' hb').1];simp)];exact (own.line b' hb').1
  ·rw [dv z (by rw [(own.line b' hb').2 z hz];simp)];exact (own.line b' hb').2 z hz
  ·have:=own.node b' hb' d' hd' z hz;rw [dv z (by rw [this];simp)];exact this
  ·rw [dv b' (by rw [(own.tx b' hb').1];simp)];exact (own.tx b' hb').1
  ·rw [dv z (by rw [(own.tx b' hb').2 z hz];simp)];exact (own.tx b' hb').2 z hz
  ·by_cases e:w.heap.size<=z/\q.own z
   ·exact hT.lt e.2
   ·have hz':y.own z≠.no:=by
     simp only [dX.pf] at hz;rw [aE e] at hz;exact hz
    have:=own.lt z hz';exact ⟨this.1,aG this.2 hm.size⟩
 ·exact ⟨hm.mono (fun z hz e=>by rcases jR z e with q | q <;> rw [q] <;> simp),fun z hz=>TM _ _ _ hz⟩
structure xY(w w':World)(L L':Lo):Prop where
 n:L'.n=L.n
 x:∀ k,L'.x k->L.x k\/w.heap.size<=k
 lt:∀ k,L'.x k->k<w'.heap.size
theorem iE.qa{G:Nat->Prop}{w w':World}{L L':Lo}{v:Value}{ps:List fR}(h:iE w L v ps)(hm:Mod G w w')(hq:Qm w L G)(hr:xY w w' L L'):iE w' L' v ps:=by
 obtain ⟨a,cap,h1,h2,h3,h4⟩:=h;refine ⟨a,cap,h1,h2,h3,?_⟩;rcases h4 with h4 | ⟨b,off,h5,h6,h7⟩
 ·exact .inl h4
 ·cases ps with
  | nil=>exact .inl rfl
  | cons p ps=>
   have hlt:b<w.heap.size:=World.block_lt_of_cell? w _ (h7 0 p rfl).1;have hn:∀ (j:Nat) (u:Value),w.cell? ⟨b,j,none⟩=some u->w'.cell? ⟨b,j,none⟩=some u:=fun j u hu=>hm.cell hu (fun g=>hq b hlt g h6);refine .inr ⟨b,off,h5,?_,fun j p hp=>⟨hn _ _ (h7 j p hp).1,hn _ _ (h7 j p hp).2.1,hn _ _ (h7 j p hp).2.2⟩⟩;rcases h6.mod hm hq with e | ⟨e,hx⟩
   ·exact .inl (by rw [hr.n];exact e)
   ·refine .inr ⟨e,fun hx'=>?_⟩;rcases hr.x b hx' with q | q
    ·exact hx q
    ·omega
theorem gU.qa{G:Nat->Prop}{w w':World}{L L':Lo}{v:Value}{cs:List dt}(h:gU w L v cs)(hm:Mod G w w')(hq:Qm w L G)(hG:∀ k,v.ownBlock=some k->¬ G k)(hr:xY w w' L L'):gU w' L' v cs:=by
 obtain ⟨us,h1,h2,h3,h4⟩:=h;exact ⟨us,h1,by rw [hr.n];exact gD h2 hm (fun k _ _ e=>hG k e),fun i m u hi hu=>(h3 i m u hi hu).qa hm hq hr,h4⟩
theorem eX.qa{G:Nat->Prop}{w w':World}{L L':Lo}{v:Value}{ms:List dp}(h:eX w L v ms)(hm:Mod G w w')(hq:Qm w L G)(hG:∀ k,v.ownBlock=some k->¬ G k)(hr:xY w w' L L'):eX w' L' v ms:=by
 obtain ⟨us,h1,h2,h3,h4⟩:=h;exact ⟨us,h1,by rw [hr.n];exact gD h2 hm (fun k _ _ e=>hG k e),fun i m u hi hu=>(h3 i m u hi hu).qa hm hq hr,h4⟩
theorem fh.qa{G:Nat->Prop}{w w':World}{L L':Lo}{g:Nat}{nv lv:Value}{s:eH}(h:fh w L g nv lv s)(hm:Mod G w w')(hq:Qm w L G)(hG:∀ k,gx g nv lv k->¬ G k)(hr:xY w w' L L'):fh w' L' g nv lv s:=
 ⟨h.blk.mod hm (hG g (.inl rfl)),by rw [hr.n];exact h.low,by rw [hr.n];exact gD h.ns hm (fun k _ _ e=>hG k (.inr (.inl e))),h.lg.qa hm hq (fun k hk=>hG k (.inr (.inr hk))) hr,h.ints,h.few,h.st,hr.lt⟩
theorem tQ.qa{G:Nat->Prop}{w w':World}{L L':Lo}{wv:Value}{mr:Option Nat}{s:ey}(h:tQ w L wv mr s)(hm:Mod G w w')(hq:Qm w L G)(hG:∀ k,wv.ownBlock=some k\/mr=some k->¬ G k)(hr:xY w w' L L'):tQ w' L' wv mr s:=
 ⟨h.row.qa hm hq (fun k hk=>hG k (.inl hk)) hr,by rw [hr.n];exact h.dn.mod hm (fun k hk=>hG k (.inr hk)),h.few,h.lo⟩
open Classical in
noncomputable def dX.jV(y:dX)(w:World)(b:Nat)(av wv:Value):dX:=
 { y with jN:=fun x=>if x=b then av else y.jN x,jf:=fun x=>if x=b then wv else y.jf x,own:=fun x=>if w.heap.size<=x/\(av.ownBlock=some x\/wv.ownBlock=some x) then .tx b else y.own x }
theorem DZ(y:dX)(w:World)(b:Nat)(av wv:Value):(y.jV w b av wv).jN b=av/\(y.jV w b av wv).jf b=wv:=by simp [dX.jV]
theorem Da(y:dX)(w:World){b x:Nat}(av wv:Value)(h:x≠b):(y.jV w b av wv).jN x=y.jN x/\(y.jV w b av wv).jf x=y.jf x:=by simp [dX.jV,h]
theorem TN(y:dX)(w:World)(b:Nat)(av wv:Value){x:Nat}(h:x<w.heap.size):(y.jV w b av wv).own x=y.own x:=by
 simp only [dX.jV];rw [aE (fun e=>by omega)]
def Ly(b:Nat)(av wv:Value)(k:Nat):Prop:=k=b\/av.ownBlock=some k\/wv.ownBlock=some k
theorem du.pd{w w':World}{n c g:Nat}{y:dX}{s:dW}(h:du w n c g y s){i b:Nat}{t t':jO}(hb:y.ja[i]?=some b)(hti:s.dV[i]?=some t){av wv:Value}
  (hm:Mod (Ly b (y.jN b) (y.jf b)) w w') (hB:dh w' b [.int .i64 t'.state,av,wv,.int .i64 t'.time] 86) (ha:w'.ownsRow n 3 1 av t'.ats.length (t'.ats.map (Value.int .i64))) (hw:w'.ownsRow n 68 3 wv t'.writes.length (t'.writes.flatMap nw))
  (h1:iC w (y.jN b) av\/av=.slice none 0 0) (h2:iC w (y.jf b) wv\/wv=.slice none 0 0) :
  du w' n c g (y.jV w b av wv) { s with dV:=s.dV.set i t' }/\iD w y w' (y.jV w b av wv):=by
 have own:=h.own;have kV:=aC hb;have hold:=h.tx i b t hb hti;have hil:i<s.dV.length:=(aB.1 hti).1;have jR:∀ z,Ly b (y.jN b) (y.jf b) z->y.own z=.tx b:=fun z e=>by
  rcases e with e | e | e
  ·rw [e];exact (own.tx b kV).1
  ·exact (own.tx b kV).2 z (.inl e)
  ·exact (own.tx b kV).2 z (.inr e)
 have hq:Qm w (y.lo n) (Ly b (y.jN b) (y.jf b)):=fun k hk e=>by
  rintro (e1 | ⟨⟨cur,fr,e1⟩,hx⟩)
  ·have h9:=(own.lt k (by rw [jR k e];simp)).1;have h8:k<n:=e1;omega
  ·rcases e with e | e | e
   ·subst e;have:=hold.blk;unfold dh at this;rw [this] at e1;simp at e1
   ·obtain ⟨_,_,cur',h5⟩:=ft hold.ats e;rw [h5] at e1;simp at e1
   ·exact hx ⟨b,kV,e⟩
 have ht:rM w w' n y (fun t=>t=.tx b):=⟨⟨_,hm,hq,fun z hz e=>⟨jR z e,by rw [jR z e];simp⟩⟩⟩;have hnew:∀ z,(av.ownBlock=some z\/wv.ownBlock=some z)->z<w.heap.size->(y.jN b).ownBlock=some z\/(y.jf b).ownBlock=some z:=fun z e hlt=>by
  rcases e with e | e
  ·rcases h1 with (q | q) | q
   ·exact .inl (by rw [<-q];exact e)
   ·have:=q z e;omega
   ·rw [q] at e;simp [Value.ownBlock] at e
  ·rcases h2 with (q | q) | q
   ·exact .inr (by rw [<-q];exact e)
   ·have:=q z e;omega
   ·rw [q] at e;simp [Value.ownBlock] at e
 have NX:∀ z,(av.ownBlock=some z\/wv.ownBlock=some z)->n<=z/\z<w'.heap.size:=fun z e=>by
  rcases e with e | e
  ·exact ⟨(ft ha e).1,(ft ha e).2.1⟩
  ·exact ⟨(ft hw e).1,(ft hw e).2.1⟩
 have hr:xY w w' (y.lo n) ((y.jV w b av wv).lo n):=by
  refine ⟨rfl,fun k hk=>?_,fun k hk=>?_⟩
  ·obtain ⟨x,hx,e⟩:=hk;by_cases GO:x=b
   ·subst GO;rw [(DZ y w x av wv).2] at e;rcases h2 with (q | q) | q
    ·exact .inl ⟨x,hx,by rw [<-q];exact e⟩
    ·exact .inr (q k e)
    ·rw [q] at e;simp [Value.ownBlock] at e
   ·rw [(Da y w av wv GO).2] at e;exact .inl ⟨x,hx,e⟩
  ·obtain ⟨x,hx,e⟩:=hk;by_cases GO:x=b
   ·subst GO;rw [(DZ y w x av wv).2] at e;exact (NX k (.inr e)).2
   ·rw [(Da y w av wv GO).2] at e;exact aG (own.lt k (by rw [(own.tx x hx).2 k (.inr e)];simp)).2 hm.size
 have dv:∀ z,y.own z≠.no->(y.jV w b av wv).own z=y.own z:=fun z hz=>TN _ _ _ _ _ (own.lt z hz).2;have NR:∀ z,av.ownBlock=some z\/wv.ownBlock=some z->(y.jV w b av wv).own z=.tx b:=fun z e=>by
  by_cases hlt:z<w.heap.size
  ·rw [TN _ _ _ _ _ hlt];exact (own.tx b kV).2 z (hnew z e hlt)
  ·simp only [dX.jV];rw [aJ ⟨by omega,e⟩]
 have NN:∀ (tg:Tag),tg≠.tx b->∀ z,y.own z=tg->¬ Ly b (y.jN b) (y.jf b) z:=fun tg hne z hz e=>hne (by rw [<-hz,jR z e]);refine ⟨⟨h.tC ht (by simp),?_,h.oW ht (by simp),h.tB ht (by simp),h.qn,h.oV ht (by simp),h.iN,fun k b' l hb' hl=>?_,h.oU ht (by simp),?_,fun i' b' t2 hb' Wk=>?_,?_⟩,?_⟩
 ·exact h.net.qa hm hq (fun k hk=>NN .net (by simp) k (own.net k hk)) hr
 ·obtain ⟨q1,q2⟩:=h.vC ht hb' hl (by simp);have hL:=h.line k b' l hb' hl;exact ⟨q1,q2,hL.len,fun j d x hd hx=>(hL.node j d x hd hx).qa hm hq (fun z hz=>NN (.node d) (by simp) z (own.node b' (aC hb') d (aC hd) z hz)) hr⟩
 ·show y.ja.length=(s.dV.set i t').length;rw [aa];exact h.kM
 ·have hb2:y.ja[i']?=some b':=hb';have zJ:(s.dV.set i t')[i']?=some t2:=Wk;rw [pX] at zJ;by_cases e:i'=i
  ·subst e;rw [aJ ⟨rfl,hil⟩] at zJ;cases zJ
   rw [hb] at hb2;cases hb2
   refine ⟨?_,?_,?_⟩
   ·rw [(DZ y w b av wv).1,(DZ y w b av wv).2];exact hB
   ·rw [(DZ y w b av wv).1];exact ha
   ·rw [(DZ y w b av wv).2];exact hw
  ·rw [aE (fun q=>e q.1)] at zJ;have hne:b'≠b:=fun q=>e (FI own.Dy (q ▸ hb2) hb);have q:=h.DG ht hb2 zJ (fun e=>hne (by simpa using e));refine ⟨?_,?_,?_⟩
   ·rw [(Da y w av wv hne).1,(Da y w av wv hne).2];exact q.blk
   ·rw [(Da y w av wv hne).1];exact q.ats
   ·rw [(Da y w av wv hne).2];exact q.wr
 ·refine ⟨by rw [dv _ (by rw [own.main];simp)];exact own.main,fun z hz=>?_,fun z hz=>?_,fun z hz=>?_,?_,fun z hz=>?_,fun b' hb'=>⟨?_,fun z hz=>?_⟩,fun b' hb' d' hd' z hz=>?_,fun b' hb'=>⟨?_,fun z hz=>?_⟩,fun z hz=>?_,own.BC,own.Dy,own.yE⟩
  ·rw [dv z (by rw [own.fm z hz];simp)];exact own.fm z hz
  ·rw [dv z (by rw [own.gR z hz];simp)];exact own.gR z hz
  ·rw [dv z (by rw [own.net z hz];simp)];exact own.net z hz
  ·rw [show (y.jV w b av wv).dr=y.dr from rfl,dv _ (by rw [own.dead];simp)];exact own.dead
  ·rw [dv z (by rw [own.tab z hz];simp)];exact own.tab z hz
  ·rw [dv b' (by rw [(own.line b' hb').1];simp)];exact (own.line b' hb').1
  ·rw [dv z (by rw [(own.line b' hb').2 z hz];simp)];exact (own.line b' hb').2 z hz
  ·have:=own.node b' hb' d' hd' z hz;rw [dv z (by rw [this];simp)];exact this
  ·rw [dv b' (by rw [(own.tx b' hb').1];simp)];exact (own.tx b' hb').1
  ·by_cases e:b'=b
   ·subst e;rw [(DZ y w b' av wv).1,(DZ y w b' av wv).2] at hz;exact NR z hz
   ·rw [(Da y w av wv e).1,(Da y w av wv e).2] at hz;rw [dv z (by rw [(own.tx b' hb').2 z hz];simp)];exact (own.tx b' hb').2 z hz
  ·by_cases e:w.heap.size<=z/\(av.ownBlock=some z\/wv.ownBlock=some z)
   ·exact NX z e.2
   ·have hz':y.own z≠.no:=by
     simp only [dX.jV] at hz;rw [aE e] at hz;exact hz
    have:=own.lt z hz';exact ⟨this.1,aG this.2 hm.size⟩
 ·exact ⟨hm.mono (fun z hz e=>by rw [jR z e];simp),fun z hz=>TN _ _ _ _ _ hz⟩
structure eJ(w:World)(y:dX)(w':World)(y':dX):Prop where
 st:iD w y w' y'
 l:y'.gH=y.gH
 n:y'.fU=y.fU
 t:y'.ja=y.ja
 lv:y'.lv=y.lv
 tv:y'.tv=y.tv
theorem eJ.refl(w:World)(y:dX):eJ w y w y:=⟨iD.refl _ _,rfl,rfl,rfl,rfl,rfl⟩
theorem eJ.quiet{w w':World}{y:dX}(hm:Mod dZ w w'):eJ w y w' y:=⟨iD.quiet hm,rfl,rfl,rfl,rfl,rfl⟩
theorem eJ.trans{w w1 w2:World}{y y1 y2:dX}(h:eJ w y w1 y1)(k:eJ w1 y1 w2 y2):eJ w y w2 y2:=⟨h.st.trans k.st,k.l.trans h.l,k.n.trans h.n,k.t.trans h.t,k.lv.trans h.lv,k.tv.trans h.tv⟩
theorem oM{w:World}{B:Nat}{e t:TypeId}{sz m:Nat}{v:Value}{xs:List Value}(h:w.ownsRow B e sz v m xs){b:Nat}{cs:List Value}(hb:dh w b cs t)(hne:e≠t):v.ownBlock≠some b:=fun q=>by
 obtain ⟨_,_,cur,hc⟩:=ft h q;unfold dh at hb;rw [hb] at hc;simp at hc;exact hne hc.2.symm
theorem Ir(s:dW){id:Nat}(t:jO):{ s with dV:=s.dV.set (id - 1) t }=dY s id t:=rfl
theorem xy(s:dW){id:Nat}(t:jO)(h1:1<=id)(h2:id<=s.dV.length):(dY s id t).tx id=t:=by
 unfold dW.tx dY;rw [aH,pX,aJ ⟨rfl,by omega⟩];rfl
theorem wg(s:dW){id j:Nat}(t:jO)(h:j - 1≠id - 1):(dY s id t).tx j=s.tx j:=by
 unfold dW.tx dY;rw [aH,pX,aE (fun q=>h q.1),aH]
theorem kT(s:dW)(id:Nat)(t:jO):(dY s id t).dV.length=s.dV.length:=by simp [dY]
theorem yFk(s:dW)(id:Nat)(st:Int):(nr s id st).dV.length=s.dV.length:=kT _ _ _
theorem Iz(s:dW)(id:Nat):(gO s id).dV.length=s.dV.length:=by
 unfold gO;rw [yFk];split
 ·exact kT _ _ _
 ·rfl
theorem zZq(s:dW)(id:Nat)(st:Int):(nr s id st).lines=s.lines:=rfl
theorem CC(s:dW)(id:Nat):(gO s id).lines=s.lines:=by
 unfold gO;rw [zZq];split <;> rfl
theorem Tz(n c g:Nat)(y:dX)(s:dW)(id:Nat)(st:Int)(w:World)(h:du w n c g y s)(h1:1<=id)(h2:id<=s.dV.length)(hl:s.dV.length<=60)(hc:c<=10000) :
  Calls Tryz.prog 63 #[.pointer (some ⟨g,0,none⟩),.int .i64 id,.int .i64 st] w fun e w'=>e=.returned (.tuple #[])/\∃ y',du w' n c g y' (nr s id st)/\eJ w y w' y':=by
 obtain ⟨b,hb,hT⟩:=h.xA h1 h2;have HT:=dU (xw n c g y s id b w h h1 (by omega) hb);have hti:=tk h1 h2;have c0:=hT.blk.cell 0 rfl;have c2:=hT.blk.cell 2 rfl;have f0:=hT.blk.frozen 0;have f2:=hT.blk.frozen 2;have zb:=hT.blk.lt;obtain ⟨w1,hw1⟩:∃ x,x=(w.setCell ⟨b,0,none⟩ (.int .i64 st)).setCell ⟨b,2,none⟩ (.slice none 0 0):=⟨_,rfl⟩;have di:Mod (eF b) w w1:=by rw [hw1];exact (Mod.dq b 0 _).trans (Mod.dq b 2 _)
 have fi:dh w1 b [.int .i64 st,y.jN b,.slice none 0 0,.int .i64 (s.tx id).time] 86:=by rw [hw1];exact (hT.blk.set 0 _).set 2 _
 have ji:=oM hT.ats hT.blk (by decide);obtain ⟨jr,hS1⟩:=h.pd hb hti (t':={ s.tx id with state:=st,writes:=[] }) (av:=y.jN b) (wv:=.slice none 0 0) (di.mono (fun x _ e=>.inl e)) fi (gD hT.ats di (fun k _ _ e q=>ji (by rw [e];exact ae some q))) (World.ownsRow_nil _ _ _ _) (.inl (.inl rfl)) (.inr rfl);rw [Ir] at jr;have pP:eJ w y w1 (y.jV w b (y.jN b) (.slice none 0 0)):=⟨hS1,rfl,rfl,rfl,rfl,rfl⟩;generalize y.jV w b (y.jN b) (.slice none 0 0)=y1 at jr pP;have hg1:=jr.blk.cell 5 rfl;have HR:=dU (yEi n 120 (y1.tb g (dY s id { s.tx id with state:=st,writes:=[] }).net.lost) _ id w1 jr.xB (by show 84≠202;decide) (by omega) (by have:=jr.qn.2.2;show y1.q.n<=10000;omega) (aM jr.low (Nat.le_of_lt jr.blk.lt)));have HH:=dU jr;have HK:=dU pP;clear h hT hb hti di fi hS1 jr pP ji;go_enter Tryz.func63,Tryz.ntmps63;go_wp2_with (first
  | (go_at_call 34;refine HT.out.mono ?_;rintro e w2 ⟨rfl,rfl⟩)
  | fail)
 rw [<-hw1];refine HR.out.mono ?_;rintro e w3 ⟨gv,q',ks,rfl,hQ⟩;obtain ⟨rp,OI⟩:=HH.out.Dx (c':=c) hQ.md hQ.tb hQ.b hQ.pre hQ.post hQ.ty (aM hQ.n HH.out.qn.2.2) hQ.own hQ.tb.few;have HF:Hid (∃ y',du w3 n c g y' (nr s id st)/\eJ w2 y w3 y'):=⟨_,rp,HK.out.trans ⟨OI,rfl,rfl,rfl,rfl,rfl⟩⟩;clear rp OI hQ HH HK HR HT hw1 c0 c2 f0 f2;go_wp2_with fail;go_end0;exact ⟨rfl,HF.out⟩
def VW:Array Value:=#[.int .i64 0]
def vg(n:Nat):List Value:=(Builtin.zeroCells VW n).toList
theorem JI(n:Nat):(vg n).length=n:=by rw [vg,cG,size_zeroCells];show n*1=n;omega
theorem zSu(n:Nat):∀ v∈vg n,v=.int .i64 0:=by
 intro v hv;simp only [vg,Builtin.zeroCells,dL,ag] at hv;obtain ⟨i,_,rfl⟩:=hv;have:i % VW.size=0:=Nat.mod_one i;rw [this];rfl
theorem yHu(n:Nat):vg n=(List.replicate n (0:Int)).map (Value.int .i64):=by
 rw [List.map_replicate];exact List.eq_replicate_iff.2 ⟨JI n,zSu n⟩
theorem ySt(w:World):(zeroValue 3).run Tryz.prog w=.ok (.int .i64 0) w:=by kernel_rfl
theorem yEh(w:World)(ty:TypeId)(b n c:Nat)(hn:0<n)(hc:∀ j,j<n->(w.cell? ⟨b,0+j,none⟩).isSome=true)(hf:∀ j,j<n->w.frozen? ⟨b,0+j,none⟩=false) :
  (Builtin.clear_ #[26] ty #[.slice (some ⟨b,0,none⟩) n c]).run Tryz.prog w=.ok (.tuple #[]) (w.setCells b 0 (vg n)):=by
 have hst:=run_storeCells_cells (P:=Tryz.prog) b 0 (vg n) 0 w (by simpa [JI] using hc) (by simpa [JI] using hf) (fun v hv=>by rw [zSu n v hv];rfl);simp only [bC] at hst;obtain ⟨m,rfl⟩:∃ m,n=m+1:=⟨n - 1,by omega⟩;have hz:=ySt;have e:(Value.cells (.int .i64 0))=VW:=rfl;simp only [vg] at hst ⊢;simp [Builtin.clear_,run_underlying Tryz.underlying26,hz,e,hst]
theorem zVs{w:World}{ops:Array Oper}{rest:List Oper}{o:Oper}{a:Act}{Q:Exit->Act->World->Prop}(hgd:o.guard=none)(s:Operand)
  (ho:o.op=.call { callee:=.builtin .clear,args:=#[s],argTypes:=#[26] }) (b n c:Nat) (hs:a.eval s=.slice (some ⟨b,0,none⟩) n c) (hn:0<n)
  (hc:∀ j,j<n->(w.cell? ⟨b,0+j,none⟩).isSome=true) (hf:∀ j,j<n->w.frozen? ⟨b,0+j,none⟩=false)
  (h:wpList Tryz.prog ops Q rest (a.put o.dst (.tuple #[])) (w.setCells b 0 (vg n))):wpList Tryz.prog ops Q (o :: rest) a w:=by
 refine wpList_plain hgd fun K hK=>?_;have hr:=yEh w o.type b n c hn hc hf;unfold Oper.wp execOp;simp only [ho,resolve,invoke,builtin,Sem.run_bind,Sem.run_pure,Result.andThen_ok,cI,bh,cR,hs,hr];exact hK _ _ h
theorem yLt{w:World}{B:Nat}{b m cap:Nat}{l:List Int}(h:w.ownsRow B 3 1 (.slice (some ⟨b,0,none⟩) m cap) l.length (l.map (Value.int .i64))):(w.setCells b 0 (vg l.length)).ownsRow B 3 1 (.slice (some ⟨b,0,none⟩) m cap) l.length ((l.map fun _=>(0:Int)).map (Value.int .i64))/\Mod (eF b) w (w.setCells b 0 (vg l.length))/\(∀ j,j<l.length->(w.cell? ⟨b,0+j,none⟩).isSome=true)/\(∀ j,w.frozen? ⟨b,0+j,none⟩=false):=by
 obtain ⟨h1,h2⟩:=h;rcases h2 with ⟨e,_⟩ | ⟨b',cap',cur,e,q1,q2,q3,q4,q5,q6⟩
 ·simp at e
 ·simp only [Value.slice.injEq,bB,Addr.mk.injEq] at e;obtain ⟨⟨rfl,_,_⟩,rfl,rfl⟩:=e;have hB:dh w b ([]++l.map (Value.int .i64)++cur.toList.drop l.length) 3:=by
   unfold dh;rw [q2];congr 2;apply Array.ext';simp only [ak];have:cur.toList.take l.length=l.map (Value.int .i64):=by simpa using q6
   rw [<-this,ai]
  have gm:=dh.kN (g:=b) (t:=3) (vg l.length) w [] (l.map (Value.int .i64)) (cur.toList.drop l.length) hB (by simp [JI]);have hcs:l.length<=cur.size:=by omega
  refine ⟨⟨by simp,.inr ⟨b,cap,(vg l.length++cur.toList.drop l.length).toArray,rfl,q1,?_,q3,q4,?_,?_⟩⟩,Mod.kN _ _ _,fun j hj=>?_,fun j=>hB.frozen _⟩
  ·unfold dh at gm;simpa using gm
  ·simp only [au,aD,JI,bJ,cG];omega
  ·have e1:(l.map fun _=>(0:Int))=List.replicate l.length 0:=List.eq_replicate_iff.2 ⟨by rw [af],fun b hb=>by obtain ⟨_,_,e⟩:=ag.1 hb;exact e.symm⟩;rw [e1,<-yHu];simp [JI]
  ·obtain ⟨x,hx⟩:∃ x,([]++l.map (Value.int .i64)++cur.toList.drop l.length)[0+j]?=some x:=⟨_,aA (by simp;omega)⟩;rw [hB.cell (0+j) hx];rfl
theorem TW(n c g:Nat)(y:dX)(s:dW)(id:Nat)(w:World)(h:du w n c g y s)(h1:1<=id)(h2:id<=s.dV.length)(hl:s.dV.length<=60)(hc:c<=10000)(ha:0<(s.tx id).ats.length) :
  Calls Tryz.prog 36 #[.pointer (some ⟨g,0,none⟩),.int .i64 id] w fun e w'=>e=.returned (.tuple #[])/\∃ y',du w' n c g y' (gO s id)/\eJ w y w' y':=by
 obtain ⟨b,hb,hT⟩:=h.xA h1 h2;have HT:=dU (xw n c g y s id b w h h1 (by omega) hb);have hti:=tk h1 h2;have c0:=hT.blk.cell 0 rfl;have c1:=hT.blk.cell 1 rfl;by_cases hs1:(s.tx id).state=1
 ·obtain ⟨ab,qo,ni⟩:∃ ab qo,y.jN b=.slice (some ⟨ab,0,none⟩) (s.tx id).ats.length qo:=by
   rcases hT.ats.2 with ⟨e,h0⟩ | ⟨g',cap',cur,e,_⟩
   ·omega
   ·exact ⟨g',cap',e⟩
  have hrow:=hT.ats;rw [ni] at hrow c1;obtain ⟨r1,r2,r3,r4⟩:=yLt hrow;have ji:ab≠b:=fun e=>oM hrow hT.blk (by decide) (by rw [e];rfl);have hne:∀ k,(y.jf b).ownBlock=some k->k≠ab:=fun k hk e=>by
   subst e;obtain ⟨_,_,cur,hc1⟩:=ft hT.wr hk;obtain ⟨_,_,cur',hc2⟩:=ft hrow rfl;rw [hc1] at hc2;simp at hc2
  obtain ⟨w1,hw1⟩:∃ x,x=w.setCells ab 0 (vg (s.tx id).ats.length):=⟨_,rfl⟩;rw [<-hw1] at r1 r2;obtain ⟨jr,hS1⟩:=h.pd hb hti (t':={ s.tx id with ats:=(s.tx id).ats.map fun _=>0 }) (av:=y.jN b) (wv:=y.jf b) (r2.mono (fun x _ e=>.inr (.inl (by rw [ni];exact ae some (Eq.symm e))))) (hT.blk.mod r2 (fun e=>ji (Eq.symm e))) (by rw [ni,af];exact r1) (gD hT.wr r2 (fun k _ _ e q=>hne k e q)) (.inl (.inl rfl)) (.inl (.inl rfl));rw [Ir] at jr;have pP:eJ w y w1 (y.jV w b (y.jN b) (y.jf b)):=⟨hS1,rfl,rfl,rfl,rfl,rfl⟩;generalize y.jV w b (y.jN b) (y.jf b)=y1 at jr pP;have Po:=dU (Tz n c g y1 _ id 4 w1 jr h1 (by rw [kT];exact h2) (by rw [kT];exact hl) hc);have sN:Hid (gO s id=nr (dY s id { s.tx id with ats:=(s.tx id).ats.map fun _=>0 }) id 4):=by unfold Hid gO;rw [aJ hs1]
  have zL:((s.tx id).state == 1)=true:=by simpa using hs1
  have HK:=dU pP;have Eu:=dU r3;have ZW:Hid (∀ j,j<(s.tx id).ats.length->w.frozen? ⟨ab,0+j,none⟩=false):=fun j _=>r4 j;clear h hT hb hti hrow r1 r2 r3 r4 jr pP hS1 hs1 ni hne;go_enter Tryz.func36,Tryz.ntmps36;go_wp2_with (first
   | (go_at_call 34;refine HT.out.mono ?_;rintro e w2 ⟨rfl,rfl⟩)
   | (refine zVs rfl _ rfl ab (s.tx id).ats.length _ rfl ha Eu.out ZW.out ?_;rw [<-hw1];clear hw1)
   | (go_at_call 63;refine Po.out.mono ?_;rintro e w3 ⟨rfl,y3,rp,hK3⟩;(have HF:Hid (∃ y',du w3 n c g y' (gO s id)/\eJ w2 y w3 y'):=⟨y3,by rw [sN.out];exact rp,HK.out.trans hK3⟩);clear rp hK3)
   | fail)
  go_end0;exact ⟨rfl,HF.out⟩
 ·have Po:=dU (Tz n c g y s id 4 w h h1 h2 hl hc);have sN:Hid (gO s id=nr s id 4):=by unfold Hid gO;rw [aE hs1]
  have zL:((s.tx id).state == 1)=false:=by simpa using hs1
  clear h hT hb hti hs1 c1;go_enter Tryz.func36,Tryz.ntmps36;go_wp2_with (first
   | (go_at_call 34;refine HT.out.mono ?_;rintro e w2 ⟨rfl,rfl⟩)
   | (go_at_call 63;refine Po.out.mono ?_;rintro e w3 ⟨rfl,y3,rp,hK3⟩;(have HF:Hid (∃ y',du w3 n c g y' (gO s id)/\eJ w2 y w3 y'):=⟨y3,by rw [sN.out];exact rp,hK3⟩);clear rp hK3)
   | fail)
  go_end0;exact ⟨rfl,HF.out⟩
structure gB(s s':dW):Prop where
 l:s'.lines=s.lines
 d:s'.dead=s.dead
 net:s'.net=s.net
 len:s'.dV.length=s.dV.length
 at_:∀ j,(s'.tx j).ats.length=(s.tx j).ats.length
theorem gB.refl(s:dW):gB s s:=⟨rfl,rfl,rfl,rfl,fun _=>rfl⟩
theorem gB.trans{a b c:dW}(h:gB a b)(k:gB b c):gB a c:=⟨k.l.trans h.l,k.d.trans h.d,k.net.trans h.net,k.len.trans h.len,fun j=>(k.at_ j).trans (h.at_ j)⟩
theorem yLr(s:dW)(id:Nat)(t:jO)(j:Nat):(dY s id t).tx j=s.tx j\/((dY s id t).tx j=t/\j - 1=id - 1):=by
 by_cases h:j - 1=id - 1
 ·by_cases h2:id - 1<s.dV.length
  ·refine .inr ⟨?_,h⟩;unfold dW.tx dY;rw [aH,pX,aJ ⟨h,by omega⟩];rfl
  ·refine .inl ?_;unfold dW.tx dY;rw [aH,pX,aE (fun q=>by omega),aH]
 ·exact .inl (wg s t h)
theorem gB.dY(s:dW)(id:Nat)(t:jO)(h:t.ats.length=(s.tx id).ats.length):gB s (dY s id t):=by
 refine ⟨rfl,rfl,rfl,kT _ _ _,fun j=>?_⟩;rcases yLr s id t j with e | ⟨e,q⟩
 ·rw [e]
 ·rw [e,h];have:s.tx j=s.tx id:=by unfold dW.tx;rw [q]
  rw [this]
theorem gB.finish(s:dW)(id:Nat)(st:Int):gB s (nr s id st):=by
 have h:=gB.dY s id { s.tx id with state:=st,writes:=[] } rfl;exact ⟨rfl,rfl,rfl,h.len,h.at_⟩
theorem gB.abort(s:dW)(id:Nat):gB s (gO s id):=by
 unfold gO;split
 ·exact (gB.dY s id { s.tx id with ats:=(s.tx id).ats.map fun _=>0 } (by simp)).trans (gB.finish _ id 4)
 ·exact gB.finish s id 4
def eE(h:dW)(i:Int):dW:=if (h.tx i.toNat).state=1 then gO h i.toNat else h
theorem yKw(s:dW)(ids:List Int):il s ids=ids.foldl eE s:=rfl
theorem gB.eE(s:dW)(i:Int):gB s (eE s i):=by
 unfold Go.Proofs.YtmaiggbnceejiaaGreatDoor.eE;split
 ·exact gB.abort s _
 ·exact gB.refl s
theorem gB.fT:∀ (ids:List Int) (s:dW),gB s (il s ids)
 | [],s=>gB.refl s
 | i :: ids,s=>(gB.eE s i).trans (gB.fT ids _)
theorem yDx(s:dW)(ids:List Int)(i:Int):il s (ids++[i])=eE (il s ids) i:=by simp [yKw,List.foldl_append]
def yP(w:World)(y:dX)(v:Value)(l:List Int):Prop:=gG w w.heap.size 1 JU v l/\∀ k,v.ownBlock=some k->y.own k=.no/\k<w.heap.size
theorem yP.keep{w w':World}{y y':dX}{v:Value}{l:List Int}(h:yP w y v l)(k:iD w y w' y'):yP w' y' v l:=by
 obtain ⟨⟨a,cap,h2,h3,h4,h5⟩,hn⟩:=h;refine ⟨⟨a,cap,h2,h3,h4,?_⟩,fun z hz=>⟨by rw [k.old z (hn z hz).2];exact (hn z hz).1,aG (hn z hz).2 k.size⟩⟩;rcases h5 with h5 | ⟨b,off,h6,h7,h8⟩
 ·exact .inl h5
 ·refine .inr ⟨b,off,h6,aG h7 k.size,fun i d hi=>?_⟩;obtain ⟨x,hx,hx2,hx3⟩:=h8 i d hi;exact ⟨x,hx,hx2,fun j u hu=>k.md.cell (hx3 j u hu) (fun e=>e (hn b (by rw [h2,h6];rfl)).1)⟩
theorem yP.at{w:World}{y:dX}{a:Option Addr}{m cap:Nat}{l:List Int}(h:yP w y (.slice a m cap) l){i:Nat}{x:Int}(hi:l[i]?=some x):∃ b off,a=some ⟨b,off,none⟩/\w.cell? ⟨b,off+i,none⟩=some (.int .i64 x):=by
 obtain ⟨b,off,cs,h1,h2,h3,_,h5⟩:=gG.at h.1 hi;unfold JU at h3;subst h3;have:=h5 0 _ rfl;simp only [bC,cT] at this;exact ⟨b,off,h1,this⟩
theorem TK{w:World}{B:Nat}{v:Value}{l:List Int}(h:jL w B v l):gG w w.heap.size 1 JU v l:=by
 obtain ⟨h1,h2⟩:=h;rcases h2 with ⟨rfl,hn⟩ | ⟨g,cap,cur,rfl,q1,q2,q3,q4,q5,q6⟩
 ·have:l=[]:=aT hn;subst this;exact gG.nil _ _ _ _
 ·have hc:jL w B (.slice (some ⟨g,0,none⟩) l.length cap) l:=⟨h1,.inr ⟨g,cap,cur,rfl,q1,q2,q3,q4,q5,q6⟩⟩;have hgl:g<w.heap.size:=(aK.1 q2).1;refine ⟨_,cap,rfl,q3,q4,.inr ⟨g,0,rfl,by omega,fun i o hi=>⟨[.int .i64 o],rfl,rfl,fun j x hx=>?_⟩⟩⟩;have hcc:w.ownsRow B 3 1 (.slice (some ⟨g,0,none⟩) l.length cap) l.length (De l):=hc;have e2:=hcc.cells (g:=g) rfl i (.int .i64 o) (by simp [De,hi]);rw [Go.WideShapes.add_plain,ah] at e2;have hj:j=0:=by have:=(aB.1 hx).1;simp at this;omega
  subst hj;simp at hx;subst hx;simpa using e2
theorem yAh(n c g:Nat)(y:dX)(s:dW)(v:Value)(ids:List Int)(w:World)(h:du w n c g y s)(hs:lY s)(hc:c<=10000)(hv:yP w y v ids)(hi:∀ i∈ids,1<=i/\i<=(s.dV.length:Int)) :
  Calls Tryz.prog 68 #[.pointer (some ⟨g,0,none⟩),v] w fun e w'=>e=.returned (.tuple #[])/\∃ y',du w' n c g y' (il s ids)/\eJ w y w' y':=by
 obtain ⟨a,cap,rfl,hc1,hc2⟩:=gG.slice hv.1;unfold maxLen at hc2;have HV:=dU hv;have HI:=dU hi;have HH:=dU h;have htl:=hs.tl;have HTA:=dU hs.ta;have hll:=hs.ll;clear hv hi h hs;go_enter Tryz.func68,Tryz.ntmps68;go_wp2_with fail;go_loopw [8] (fun i0 wr=>∃ (i:Nat) (yr:dX),i<=ids.length/\i0=.int .i64 i/\du wr n c g yr (il s (ids.take i))/\eJ w y wr yr) (fun i0 _=>ids.length - (intOf i0).toNat)
 case atStart=>exact ⟨0,y,aV _,rfl,by rw [bg];exact HH.out,eJ.refl _ _⟩
 case round=>
  obtain ⟨i,yr,hil,rfl,hH,hK⟩:=hrel;by_cases hlt:i<ids.length
  ·obtain ⟨x,hx⟩:∃ x,ids[i]?=some x:=⟨_,aA hlt⟩;obtain ⟨b,off,rfl,q0⟩:=(HV.out.keep hK.st).at hx;obtain ⟨hx1,hx2⟩:=HI.out x (aC hx);obtain ⟨id,rfl⟩:∃ id:Nat,x=id:=⟨x.toNat,by omega⟩;have hsame:=gB.fT (ids.take i) s;have hle:id<=(il s (ids.take i)).dV.length:=by rw [hsame.len];omega
   obtain ⟨tb,BE,hT⟩:=hH.xA (id:=id) (by omega) hle;have t0:=hT.blk.cell 0 rfl;have HT:=dU (xw n c g yr _ id tb wr hH (by omega) (by omega) BE);have px:0<((il s (ids.take i)).tx id).ats.length:=by
    rw [hsame.at_ id,HTA.out _ (Bm (by omega) (by omega))];omega
   have sN:=dU (TW n c g yr _ id wr hH (by omega) hle (by rw [hsame.len];exact htl) hc px);have Ks:Hid (il s (ids.take (i+1))=eE (il s (ids.take i)) id):=by unfold Hid;rw [qP hx,yDx]
   have HK:=dU hK;have HHr:=dU hH;have kO:(i:Int)<(ids.length:Int):=by omega
   have hi0:(0:Int)<=(i:Int):=by omega
   clear hH hK hT BE hx hsame px hx1 hx2 HV;by_cases hs1:((il s (ids.take i)).tx id).state=1
   ·have zL:(((il s (ids.take i)).tx id).state == 1)=true:=by simpa using hs1
    have Ko:Hid (eE (il s (ids.take i)) id=gO (il s (ids.take i)) id):=by unfold Hid eE;rw [aS,aJ hs1]
    clear hs1;go_wp2_with (first
     | (go_at_call 34;refine HT.out.mono ?_;rintro e w2 ⟨rfl,rfl⟩)
     | (go_at_call 36;refine sN.out.mono ?_;rintro e w3 ⟨rfl,y3,rp,hK3⟩;(have HF:Hid (du w3 n c g y3 (il s (ids.take (i+1)))/\eJ w y w3 y3):=⟨by rw [Ks.out,Ko.out];exact rp,HK.out.trans hK3⟩);clear rp hK3)
     | fail)
    go_roundw
    case rel=>exact ⟨i+1,y3,by omega,by go_num,HF.out.1,HF.out.2⟩
    case measure=>simp [intOf];omega
   ·have zL:(((il s (ids.take i)).tx id).state == 1)=false:=by simpa using hs1
    have Ko:Hid (eE (il s (ids.take i)) id=il s (ids.take i)):=by unfold Hid eE;rw [aS,aE hs1]
    clear hs1;go_wp2_with (first
     | (go_at_call 34;refine HT.out.mono ?_;rintro e w2 ⟨rfl,rfl⟩)
     | fail)
    go_roundw
    case rel=>exact ⟨i+1,yr,by omega,by go_num,by rw [Ks.out,Ko.out];exact HHr.out,HK.out⟩
    case measure=>simp [intOf];omega
  ·obtain rfl:i=ids.length:=by omega
   rw [bI] at hH;have HF:Hid (∃ y',du wr n c g y' (il s ids)/\eJ w y wr y'):=⟨yr,hH,hK⟩;clear hH hK;go_wp2_with fail;go_end0;exact ⟨rfl,HF.out⟩
def sU(s:dW)(id:Int)(key:ByteArray)(m:Nat):List Int:=((List.range m).map fun (i:Nat)=>(i:Int)+1).filter fun o=>decide (o≠id) && decide (iM (s.keys key).held o≠0)
theorem yBh(s:dW)(id:Int)(key:ByteArray)(m:Nat):sU s id key (m+1)=if ((m:Int)+1≠id/\iM (s.keys key).held ((m:Int)+1)≠0) then sU s id key m++[(m:Int)+1] else sU s id key m:=by
 unfold sU;rw [aY,ao,List.filter_append];by_cases h1:(m:Int)+1≠id <;> by_cases h2:iM (s.keys key).held ((m:Int)+1)≠0 <;> simp [h1,h2]
theorem UZ(s:dW)(id:Int)(key:ByteArray)(m:Nat):(sU s id key m).length<=m:=by
 refine aM (aw _ _) ?_;simp
theorem Qq{s:dW}{id o:Int}{key:ByteArray}(h:o∈oK s id key):1<=o/\o<=(s.dV.length:Int):=by
 obtain ⟨h1,_⟩:=al.1 h;obtain ⟨i,hi,rfl⟩:=ag.1 h1;have:=cL.1 hi;omega
theorem du.holds{w:World}{n c g:Nat}{y:dX}{s:dW}(h:du w n c g y s)(t:Int)(key:ByteArray)(hk:fj key) :
  Calls Tryz.prog 70 #[.pointer (some ⟨g,5,none⟩),.int .i64 t,.string key] w fun e w'=>e=.returned (.int .i64 (iM (s.keys key).held t))/\Mod dZ w w':=
 yNc n 120 (y.tb g s.net.lost) s.keys t key w h.xB hk (by omega)
theorem zWv(n c g:Nat)(y:dX)(s:dW)(id:Int)(key:ByteArray)(w:World)(h:du w n c g y s)(hl:s.dV.length<=60)(hk:fj key) :
  Calls Tryz.prog 69 #[.pointer (some ⟨g,0,none⟩),.int .i64 id,.string key] w fun e w'=>∃ u,e=.returned u/\jL w' w.heap.size u (oK s id key)/\Mod dZ w w':=by
 obtain ⟨j0,hj,GD,GC,GB⟩:=info_parts Tryz.rZ;have ID:Hid (jL w w.heap.size (.slice none 0 0) []):=World.ownsRow_nil _ _ _ _;have HH:=dU h;clear h;go_enter Tryz.func69,Tryz.ntmps69;go_wp2_with fail;go_loopw [7,8] (fun u i wr=>∃ k:Nat,k<=s.dV.length/\i=.int .i64 ((k:Int)+1)/\jL wr w.heap.size u (sU s id key k)/\Mod dZ w wr) (fun _ i _=>s.dV.length+1 - (intOf i).toNat)
 case atStart=>exact ⟨0,aV _,rfl,ID.out,Mod.refl _ _⟩
 case round=>
  obtain ⟨k,hkl,rfl,hrow,hM⟩:=hrel;obtain ⟨ua,dj,rfl⟩:=fJ hrow;have zj:=HH.out.quiet hM;obtain ⟨-,-,-,-,-,-,c6⟩:=kA zj.blk;obtain ⟨ta,iX,pM⟩:=fJ zj.gR;rw [pM,zj.kM] at c6;have HM:=dU hM;have fc:=dU hrow;have IT:=dU (zj.holds ((k:Int)+1) key hk);have hlk:=UZ s id key k;have kg:=dU (yBh s id key k);clear hrow hM ID zj pM;by_cases hlt:k<s.dV.length
  ·have hle:decide ((k:Int)+1<=(s.dV.length:Int))=true:=aQ (by omega);by_cases he:(k:Int)+1=id
   ·have Gu:(((k:Int)+1) != id)=false:=by simpa using he
    have HN:Hid (sU s id key (k+1)=sU s id key k):=by unfold Hid;rw [kg.out,aE (fun q=>q.1 he)]
    clear he kg IT;go_wp2_with fail;go_roundw
    case rel=>exact ⟨k+1,by omega,by go_num,by rw [HN.out];exact fc.out,HM.out⟩
    case measure=>simp [intOf];omega
   ·have Gu:(((k:Int)+1) != id)=true:=by simpa using he
    by_cases hmo:iM (s.keys key).held ((k:Int)+1)=0
    ·have hmb:(iM (s.keys key).held ((k:Int)+1) != 0)=false:=by simpa using hmo
     have HN:Hid (sU s id key (k+1)=sU s id key k):=by unfold Hid;rw [kg.out,aE (fun q=>q.2 hmo)]
     clear he kg hmo;go_wp2_with (first
      | (go_at_call 70;refine IT.out.mono ?_;rintro e w2 ⟨rfl,hm2⟩;have gu:=dU (HM.out.trans hm2);have Ba:=dU (fc.out.mod hm2 (fun _ _ e=>e));clear hm2)
      | fail)
     go_roundw
     case rel=>exact ⟨k+1,by omega,by go_num,by rw [HN.out];exact Ba.out,gu.out⟩
     case measure=>simp [intOf];omega
    ·have hmb:(iM (s.keys key).held ((k:Int)+1) != 0)=true:=by simpa using hmo
     have HN:Hid (sU s id key (k+1)=sU s id key k++[(k:Int)+1]):=by unfold Hid;rw [kg.out,aJ ⟨he,hmo⟩]
     have iF:(sU s id key k).length+1<=maxLen:=by unfold maxLen;omega
     have iG:((sU s id key k).length+1)*8<=140737488355328:=by omega
     clear he kg hmo;go_upto_region 6 with (first
      | (go_at_call 70;refine IT.out.mono ?_;rintro e w2 ⟨rfl,hm2⟩;have gu:=dU (HM.out.trans hm2);have Ba:Hid (w2.ownsRow w.heap.size 3 1 (.slice ua (sU s id key k).length dj) (sU s id key k).length (De (sU s id key k))):=fc.out.mod hm2 (fun _ _ e=>e);clear hm2)
      | fail)
     have hz2:=gu.out.size;go_wp2_with (first
      | (at_builtin;refine wpList_append_own_at _ rfl (.tmp 30) (.tmp 32) 26 rfl w.heap.size 3 j0 _ 1 8 Tryz.underlying26 hj GD GC GB rfl (by decide) _ _ _ rfl (Ba.out.alloc _) ⟨w2.heap.size,0,none⟩ 1 1 [.int .i64 ((k:Int)+1)] rfl rfl (World.news_of_block (heap_alloc_new w2 _)) (by simp [Value.oneCell']) iF iG (by simp;omega) ?_)
      | fail)
     intro v7 w7 eQ fB _ jC;have ix:Mod dZ w w7:=(gu.out.alloc _).grown fB (fun y hy hlt=>by have:=(mM Ba.out hy).1;omega);obtain ⟨a7,fP,qf⟩:=fJ eQ;subst qf;have PE:=dU eQ;have DR:=dU ix;clear eQ fB jC ix;go_wp2_with fail;go_roundw
     case rel=>
      refine ⟨k+1,by omega,by go_num,?_,DR.out⟩;rw [HN.out];unfold jL;rw [zOg,aD];exact PE.out
     case measure=>simp [intOf];omega
  ·obtain rfl:k=s.dV.length:=by omega
   have hle:decide (((s.dV.length:Nat):Int)+1<=(s.dV.length:Int))=false:=aP (by omega);clear kg IT;go_wp2_with fail;go_ret;exact ⟨_,rfl,fc.out,HM.out⟩
theorem yHv(n c g q1 q2:Nat)(y:dX)(s:dW)(id o:Int)(w:World)(h:du w n c g y s)(hl:s.dV.length<=60)(ho:1<=o/\o<=(s.dV.length:Int))(h1:w.cell? ⟨q1,0,none⟩=some (.int .i64 id))(h2:w.cell? ⟨q2,0,none⟩=some (.pointer (some ⟨g,0,none⟩))) :
  Calls Tryz.prog 92 #[.int .i64 o,.pointer (some ⟨q1,0,none⟩),.pointer (some ⟨q2,0,none⟩)] w fun e w'=>e=.returned (.bool (decide (o<id) || decide ((s.tx o.toNat).state≠1)))/\Mod dZ w w':=by
 obtain ⟨i,rfl⟩:∃ i:Nat,o=i:=⟨o.toNat,by omega⟩;rw [aS];obtain ⟨b,hb,hT⟩:=h.xA (id:=i) (by omega) (by omega);have HT:=dU (xw n c g y s i b w h (by omega) (by omega) hb);have t0:=hT.blk.cell 0 rfl;clear h hT hb;by_cases hlt:(i:Int)<id
 ·have hd:decide ((i:Int)<id)=true:=aQ hlt;clear hlt;go_enter Tryz.func92,Tryz.ntmps92;go_wp2_with fail;go_ret;exact ⟨by rw [hd];rfl,Mod.refl _ _⟩
 ·have hd:decide ((i:Int)<id)=false:=aP hlt;by_cases hs:(s.tx i).state=1
  ·have zL:((s.tx i).state != 1)=false:=by simpa using hs
   have HD:Hid (decide ((s.tx i).state≠1)=false):=aP (fun q=>q hs);clear hlt hs;go_enter Tryz.func92,Tryz.ntmps92;go_wp2_with (first
    | (go_at_call 34;refine HT.out.mono ?_;rintro e w2 ⟨rfl,rfl⟩)
    | fail)
   go_ret;exact ⟨by rw [hd,HD.out];rfl,Mod.refl _ _⟩
  ·have zL:((s.tx i).state != 1)=true:=by simpa using hs
   have HD:Hid (decide ((s.tx i).state≠1)=true):=aQ hs;clear hlt hs;go_enter Tryz.func92,Tryz.ntmps92;go_wp2_with (first
    | (go_at_call 34;refine HT.out.mono ?_;rintro e w2 ⟨rfl,rfl⟩)
    | fail)
   go_ret;exact ⟨by rw [hd,HD.out];rfl,Mod.refl _ _⟩
theorem yAd(n c g:Nat)(y:dX)(s:dW)(id:Int)(key:ByteArray)(w:World)(h:du w n c g y s)(hl:s.dV.length<=60)(hk:fj key) :
  Calls Tryz.prog 51 #[.pointer (some ⟨g,0,none⟩),.int .i64 id,.string key] w fun e w'=>e=.returned (.bool (oe s id key))/\Mod dZ w w':=by
 obtain ⟨w1,hw1⟩:∃ x,x=w.alloc (.cells #[.pointer (some ⟨g,0,none⟩)] 35):=⟨_,rfl⟩;obtain ⟨w2,hw2⟩:∃ x,x=w1.alloc (.cells #[.int .i64 id] 3):=⟨_,rfl⟩;have di:Mod dZ w w1:=by rw [hw1];exact (Mod.refl _ w).alloc _
 have hm2:Mod dZ w1 w2:=by rw [hw2];exact (Mod.refl _ w1).alloc _
 have hz1:w1.heap.size=w.heap.size+1:=by rw [hw1,World.size_alloc]
 have hb1:dh w2 w.heap.size [.pointer (some ⟨g,0,none⟩)] 35:=dh.mod (by rw [hw1];exact dh.new w _ _) hm2 (fun e=>e);have hb2:dh w2 (w.heap.size+1) [.int .i64 id] 3:=by rw [<-hz1,hw2];exact dh.new w1 _ _
 have hm:=di.trans hm2;have qh:=h.quiet hm;have x1:=hb1.cell 0 rfl;have x2:=hb2.cell 0 rfl;have PV:=dU (zWv n c g y s id key w2 qh hl hk);have uB:∀ fn first cap w,(Instr.makeFunc fn first cap).run Tryz.prog w=.ok (.func fn first cap) w:=fun _ _ _ _=>rfl
 have HH:=dU qh;have HM:=dU hm;have ZG:=dU x1;have HX2:=dU x2;clear h di hm2 hb1 hb2 hm qh hz1;go_enter Tryz.func51,Tryz.ntmps51;go_upto_region 1 with fail;rw [<-hw1,<-hw2];clear hw1 hw2;go_wp2_with fail;refine PV.out.mono ?_;rintro e w3 ⟨u,rfl,hu,dz⟩;have HA:mF 92 #[.pointer (some ⟨w.heap.size+1,0,none⟩),.pointer (some ⟨w.heap.size,0,none⟩)] (fun d=>.int .i64 d) (oK s id key) (fun o=>decide (o<id) || decide ((s.tx o.toNat).state≠1)) (fun wr=>du wr n c g y s/\wr.cell? ⟨w.heap.size+1,0,none⟩=some (.int .i64 id)/\wr.cell? ⟨w.heap.size,0,none⟩=some (.pointer (some ⟨g,0,none⟩))):=
  ⟨wR Tryz.func92 (by kernel_rfl) rfl,fun wa wb hh hm=>⟨hh.1.quiet hm,hm.cell hh.2.1 (fun e=>e),hm.cell hh.2.2 (fun e=>e)⟩,fun d hd wr hh=>yHv n c g _ _ y s id d wr hh.1 hl (Qq hd) hh.2.1 hh.2.2⟩
 have hlen:(oK s id key).length<=60:=aM (UZ s id key s.dV.length) hl;have Pr:=dU (zVv 92 w3.heap.size _ _ u (oK s id key) w3 _ (TK hu) HA ⟨HH.out.quiet dz,dz.cell HX2.out (fun e=>e),dz.cell ZG.out (fun e=>e)⟩ (by omega));obtain ⟨ua,uc,CY⟩:=fJ hu;subst CY;have jt:=dU (HM.out.trans dz);clear hu HA dz PV;go_wp2_with fail;refine Pr.out.mono ?_;rintro e w4 ⟨rfl,gM⟩;have HY:Hid (oe s id key=!((oK s id key).any fun o=>decide (o<id) || decide ((s.tx o.toNat).state≠1))):=rfl
 cases hb:(oK s id key).any fun o=>decide (o<id) || decide ((s.tx o.toNat).state≠1)
 all_goals
  rw [hb] at HY;go_wp2_with fail;go_ret;exact ⟨by rw [HY.out];rfl,jt.out.trans gM⟩
end Go.Proofs.YtmaiggbnceejiaaGreatDoor
