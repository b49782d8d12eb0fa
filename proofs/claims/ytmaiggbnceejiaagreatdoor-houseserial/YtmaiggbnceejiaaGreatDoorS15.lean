import Derived.Test.YtmaiggbnceejiaaGreatDoorS14
import Derived.Test.YtmaiggbnceejiaaGreatDoorS11
import Derived.LaidEql
import Derived.Stop.Asserts
import Derived.RowKitTokens
set_option linter.unusedVariables false
set_option maxRecDepth 100000
set_option maxHeartbeats 16000000
namespace Go.Proofs.YtmaiggbnceejiaaGreatDoor
open Go.RowKit Go.Lib Go.Maps Go.Extern.Stop Go.Stop Go.Extern
structure yK(w w':World)(L L':Lo):Prop where
 n:L'.n=L.n
 x:∀ k,L'.x k->L.x k\/w.heap.size<=k
 lt:∀ k,L'.x k->k<w'.heap.size
theorem iH.qj{G:Nat->Prop}{w w':World}{L L':Lo}{v:Value}{ps:List fQ}(h:iH w L v ps)(hm:Mod G w w')(hq:Qm w L G)(hr:yK w w' L L'):iH w' L' v ps:=by
 obtain ⟨a,cap,h1,h2,h3,h4⟩:=h;refine ⟨a,cap,h1,h2,h3,?_⟩;rcases h4 with h4 | ⟨b,off,h5,h6,h7⟩
 ·exact .inl h4
 ·cases ps with
  | nil=>exact .inl rfl
  | cons p ps=>
   have hlt:b<w.heap.size:=World.block_lt_of_cell? w _ (h7 0 p rfl).1;have hn:∀ (j:Nat) (u:Value),w.cell? ⟨b,j,none⟩=some u->w'.cell? ⟨b,j,none⟩=some u:=fun j u hu=>hm.cell hu (fun g=>hq b hlt g h6);refine .inr ⟨b,off,h5,?_,fun j p hp=>⟨hn _ _ (h7 j p hp).1,hn _ _ (h7 j p hp).2.1,hn _ _ (h7 j p hp).2.2⟩⟩;rcases h6.mod hm hq with e | ⟨e,hx⟩
   ·exact .inl (by rw [hr.n];exact e)
   ·refine .inr ⟨e,fun hx'=>?_⟩;rcases hr.x b hx' with q | q
    ·exact hx q
    ·omega
theorem gZ.qj{G:Nat->Prop}{w w':World}{L L':Lo}{v:Value}{cs:List dv}(h:gZ w L v cs)(hm:Mod G w w')(hq:Qm w L G)(hG:∀ k,v.ownBlock=some k->¬ G k)(hr:yK w w' L L'):gZ w' L' v cs:=by
 obtain ⟨us,h1,h2,h3,h4⟩:=h;exact ⟨us,h1,by rw [hr.n];exact fm h2 hm (fun k _ _ e=>hG k e),fun i m u hi hu=>(h3 i m u hi hu).qj hm hq hr,h4⟩
theorem eV.qj{G:Nat->Prop}{w w':World}{L L':Lo}{v:Value}{ms:List dw}(h:eV w L v ms)(hm:Mod G w w')(hq:Qm w L G)(hG:∀ k,v.ownBlock=some k->¬ G k)(hr:yK w w' L L'):eV w' L' v ms:=by
 obtain ⟨us,h1,h2,h3,h4⟩:=h;exact ⟨us,h1,by rw [hr.n];exact fm h2 hm (fun k _ _ e=>hG k e),fun i m u hi hu=>(h3 i m u hi hu).qj hm hq hr,h4⟩
theorem fe.qj{G:Nat->Prop}{w w':World}{L L':Lo}{g:Nat}{nv lv:Value}{s:eK}(h:fe w L g nv lv s)(hm:Mod G w w')(hq:Qm w L G)(hG:∀ k,gw g nv lv k->¬ G k)(hr:yK w w' L L'):fe w' L' g nv lv s:=
 ⟨h.blk.mod hm (hG g (.inl rfl)),by rw [hr.n];exact h.low,by rw [hr.n];exact fm h.ns hm (fun k _ _ e=>hG k (.inr (.inl e))),h.lg.qj hm hq (fun k hk=>hG k (.inr (.inr hk))) hr,h.ints,h.few,h.st,hr.lt⟩
theorem tp.qj{G:Nat->Prop}{w w':World}{L L':Lo}{wv:Value}{mr:Option Nat}{s:fC}(h:tp w L wv mr s)(hm:Mod G w w')(hq:Qm w L G)(hG:∀ k,wv.ownBlock=some k\/mr=some k->¬ G k)(hr:yK w w' L L'):tp w' L' wv mr s:=
 ⟨h.row.qj hm hq (fun k hk=>hG k (.inl hk)) hr,by rw [hr.n];exact h.dn.mod hm (fun k hk=>hG k (.inr hk)),h.few,h.lo⟩
open Classical in
noncomputable def dY.jj(y:dY)(w:World)(b:Nat)(av wv:Value):dY:=
 { y with jQ:=fun x=>if x=b then av else y.jQ x,jq:=fun x=>if x=b then wv else y.jq x,own:=fun x=>if w.heap.size<=x/\(av.ownBlock=some x\/wv.ownBlock=some x) then .tx b else y.own x }
theorem EH(y:dY)(w:World)(b:Nat)(av wv:Value):(y.jj w b av wv).jQ b=av/\(y.jj w b av wv).jq b=wv:=by simp [dY.jj]
theorem EI(y:dY)(w:World){b x:Nat}(av wv:Value)(h:x≠b):(y.jj w b av wv).jQ x=y.jQ x/\(y.jj w b av wv).jq x=y.jq x:=by simp [dY.jj,h]
theorem Ta(y:dY)(w:World)(b:Nat)(av wv:Value){x:Nat}(h:x<w.heap.size):(y.jj w b av wv).own x=y.own x:=by
 simp only [dY.jj];rw [aK (fun e=>by omega)]
def Md(b:Nat)(av wv:Value)(k:Nat):Prop:=k=b\/av.ownBlock=some k\/wv.ownBlock=some k
theorem dx.po{w w':World}{n c g:Nat}{y:dY}{s:dX}(h:dx w n c g y s){i b:Nat}{t t':jR}(hb:y.jo[i]?=some b)(hti:s.dW[i]?=some t){av wv:Value}
  (hm:Mod (Md b (y.jQ b) (y.jq b)) w w') (hB:dg w' b [.int .i64 t'.state,av,wv,.int .i64 t'.time] 86) (ha:w'.ownsRow n 3 1 av t'.ats.length (t'.ats.map (Value.int .i64))) (hw:w'.ownsRow n 68 3 wv t'.writes.length (t'.writes.flatMap oE))
  (h1:iF w (y.jQ b) av\/av=.slice none 0 0) (h2:iF w (y.jq b) wv\/wv=.slice none 0 0) :
  dx w' n c g (y.jj w b av wv) { s with dW:=s.dW.set i t' }/\iG w y w' (y.jj w b av wv):=by
 have own:=h.own;have kX:=aC hb;have hold:=h.tx i b t hb hti;have hil:i<s.dW.length:=(aB.1 hti).1;have jb:∀ z,Md b (y.jQ b) (y.jq b) z->y.own z=.tx b:=fun z e=>by
  rcases e with e | e | e
  ·rw [e];exact (own.tx b kX).1
  ·exact (own.tx b kX).2 z (.inl e)
  ·exact (own.tx b kX).2 z (.inr e)
 have hq:Qm w (y.lo n) (Md b (y.jQ b) (y.jq b)):=fun k hk e=>by
  rintro (e1 | ⟨⟨cur,fr,e1⟩,hx⟩)
  ·have h9:=(own.lt k (by rw [jb k e];simp)).1;have h8:k<n:=e1;omega
  ·rcases e with e | e | e
   ·subst e;have:=hold.blk;unfold dg at this;rw [this] at e1;simp at e1
   ·obtain ⟨_,_,cur',h5⟩:=fW hold.ats e;rw [h5] at e1;simp at e1
   ·exact hx ⟨b,kX,e⟩
 have ht:re w w' n y (fun t=>t=.tx b):=⟨⟨_,hm,hq,fun z hz e=>⟨jb z e,by rw [jb z e];simp⟩⟩⟩;have hnew:∀ z,(av.ownBlock=some z\/wv.ownBlock=some z)->z<w.heap.size->(y.jQ b).ownBlock=some z\/(y.jq b).ownBlock=some z:=fun z e hlt=>by
  rcases e with e | e
  ·rcases h1 with (q | q) | q
   ·exact .inl (by rw [<-q];exact e)
   ·have:=q z e;omega
   ·rw [q] at e;simp [Value.ownBlock] at e
  ·rcases h2 with (q | q) | q
   ·exact .inr (by rw [<-q];exact e)
   ·have:=q z e;omega
   ·rw [q] at e;simp [Value.ownBlock] at e
 have OO:∀ z,(av.ownBlock=some z\/wv.ownBlock=some z)->n<=z/\z<w'.heap.size:=fun z e=>by
  rcases e with e | e
  ·exact ⟨(fW ha e).1,(fW ha e).2.1⟩
  ·exact ⟨(fW hw e).1,(fW hw e).2.1⟩
 have hr:yK w w' (y.lo n) ((y.jj w b av wv).lo n):=by
  refine ⟨rfl,fun k hk=>?_,fun k hk=>?_⟩
  ·obtain ⟨x,hx,e⟩:=hk;by_cases Hq:x=b
   ·subst Hq;rw [(EH y w x av wv).2] at e;rcases h2 with (q | q) | q
    ·exact .inl ⟨x,hx,by rw [<-q];exact e⟩
    ·exact .inr (q k e)
    ·rw [q] at e;simp [Value.ownBlock] at e
   ·rw [(EI y w av wv Hq).2] at e;exact .inl ⟨x,hx,e⟩
  ·obtain ⟨x,hx,e⟩:=hk;by_cases Hq:x=b
   ·subst Hq;rw [(EH y w x av wv).2] at e;exact (OO k (.inr e)).2
   ·rw [(EI y w av wv Hq).2] at e;exact aH (own.lt k (by rw [(own.tx x hx).2 k (.inr e)];simp)).2 hm.size
 have dz:∀ z,y.own z≠.no->(y.jj w b av wv).own z=y.own z:=fun z hz=>Ta _ _ _ _ _ (own.lt z hz).2;have OI:∀ z,av.ownBlock=some z\/wv.ownBlock=some z->(y.jj w b av wv).own z=.tx b:=fun z e=>by
  by_cases hlt:z<w.heap.size
  ·rw [Ta _ _ _ _ _ hlt];exact (own.tx b kX).2 z (hnew z e hlt)
  ·simp only [dY.jj];rw [aP ⟨by omega,e⟩]
 have OD:∀ (tg:Tag),tg≠.tx b->∀ z,y.own z=tg->¬ Md b (y.jQ b) (y.jq b) z:=fun tg hne z hz e=>hne (by rw [<-hz,jb z e]);refine ⟨⟨h.tZ ht (by simp),?_,h.oY ht (by simp),h.tY ht (by simp),h.qn,h.oX ht (by simp),h.iQ,fun k b' l hb' hl=>?_,h.oW ht (by simp),?_,fun i' b' t2 hb' XC=>?_,?_⟩,?_⟩
 ·exact h.net.qj hm hq (fun k hk=>OD .net (by simp) k (own.net k hk)) hr
 ·obtain ⟨q1,q2⟩:=h.vV ht hb' hl (by simp);have hL:=h.line k b' l hb' hl;exact ⟨q1,q2,hL.len,fun j d x hd hx=>(hL.node j d x hd hx).qj hm hq (fun z hz=>OD (.node d) (by simp) z (own.node b' (aC hb') d (aC hd) z hz)) hr⟩
 ·show y.jo.length=(s.dW.set i t').length;rw [ag];exact h.kN
 ·have hb2:y.jo[i']?=some b':=hb';have AM:(s.dW.set i t')[i']?=some t2:=XC;rw [qf] at AM;by_cases e:i'=i
  ·subst e;rw [aP ⟨rfl,hil⟩] at AM;cases AM
   rw [hb] at hb2;cases hb2
   refine ⟨?_,?_,?_⟩
   ·rw [(EH y w b av wv).1,(EH y w b av wv).2];exact hB
   ·rw [(EH y w b av wv).1];exact ha
   ·rw [(EH y w b av wv).2];exact hw
  ·rw [aK (fun q=>e q.1)] at AM;have hne:b'≠b:=fun q=>e (GK own.Eo (q ▸ hb2) hb);have q:=h.Dq ht hb2 AM (fun e=>hne (by simpa using e));refine ⟨?_,?_,?_⟩
   ·rw [(EI y w av wv hne).1,(EI y w av wv hne).2];exact q.blk
   ·rw [(EI y w av wv hne).1];exact q.ats
   ·rw [(EI y w av wv hne).2];exact q.wr
 ·refine ⟨by rw [dz _ (by rw [own.main];simp)];exact own.main,fun z hz=>?_,fun z hz=>?_,fun z hz=>?_,?_,fun z hz=>?_,fun b' hb'=>⟨?_,fun z hz=>?_⟩,fun b' hb' d' hd' z hz=>?_,fun b' hb'=>⟨?_,fun z hz=>?_⟩,fun z hz=>?_,own.Bv,own.Eo,own.yu⟩
  ·rw [dz z (by rw [own.fi z hz];simp)];exact own.fi z hz
  ·rw [dz z (by rw [own.gW z hz];simp)];exact own.gW z hz
  ·rw [dz z (by rw [own.net z hz];simp)];exact own.net z hz
  ·rw [show (y.jj w b av wv).dr=y.dr from rfl,dz _ (by rw [own.dead];simp)];exact own.dead
  ·rw [dz z (by rw [own.tab z hz];simp)];exact own.tab z hz
  ·rw [dz b' (by rw [(own.line b' hb').1];simp)];exact (own.line b' hb').1
  ·rw [dz z (by rw [(own.line b' hb').2 z hz];simp)];exact (own.line b' hb').2 z hz
  ·have:=own.node b' hb' d' hd' z hz;rw [dz z (by rw [this];simp)];exact this
  ·rw [dz b' (by rw [(own.tx b' hb').1];simp)];exact (own.tx b' hb').1
  ·by_cases e:b'=b
   ·subst e;rw [(EH y w b' av wv).1,(EH y w b' av wv).2] at hz;exact OI z hz
   ·rw [(EI y w av wv e).1,(EI y w av wv e).2] at hz;rw [dz z (by rw [(own.tx b' hb').2 z hz];simp)];exact (own.tx b' hb').2 z hz
  ·by_cases e:w.heap.size<=z/\(av.ownBlock=some z\/wv.ownBlock=some z)
   ·exact OO z e.2
   ·have hz':y.own z≠.no:=by
     simp only [dY.jj] at hz;rw [aK e] at hz;exact hz
    have:=own.lt z hz';exact ⟨this.1,aH this.2 hm.size⟩
 ·exact ⟨hm.mono (fun z hz e=>by rw [jb z e];simp),fun z hz=>Ta _ _ _ _ _ hz⟩
structure eL(w:World)(y:dY)(w':World)(y':dY):Prop where
 st:iG w y w' y'
 l:y'.gF=y.gF
 n:y'.fL=y.fL
 t:y'.jo=y.jo
 lv:y'.lv=y.lv
 tv:y'.tv=y.tv
theorem eL.refl(w:World)(y:dY):eL w y w y:=⟨iG.refl _ _,rfl,rfl,rfl,rfl,rfl⟩
theorem eL.quiet{w w':World}{y:dY}(hm:Mod dZ w w'):eL w y w' y:=⟨iG.quiet hm,rfl,rfl,rfl,rfl,rfl⟩
theorem eL.trans{w w1 w2:World}{y y1 y2:dY}(h:eL w y w1 y1)(k:eL w1 y1 w2 y2):eL w y w2 y2:=⟨h.st.trans k.st,k.l.trans h.l,k.n.trans h.n,k.t.trans h.t,k.lv.trans h.lv,k.tv.trans h.tv⟩
theorem oP{w:World}{B:Nat}{e t:TypeId}{sz m:Nat}{v:Value}{xs:List Value}(h:w.ownsRow B e sz v m xs){b:Nat}{cs:List Value}(hb:dg w b cs t)(hne:e≠t):v.ownBlock≠some b:=fun q=>by
 obtain ⟨_,_,cur,hc⟩:=fW h q;unfold dg at hb;rw [hb] at hc;simp at hc;exact hne hc.2.symm
theorem Js(s:dX){id:Nat}(t:jR):{ s with dW:=s.dW.set (id - 1) t }=db s id t:=rfl
theorem yk(s:dX){id:Nat}(t:jR)(h1:1<=id)(h2:id<=s.dW.length):(db s id t).tx id=t:=by
 unfold dX.tx db;rw [aI,qf,aP ⟨rfl,by omega⟩];rfl
theorem xV(s:dX){id j:Nat}(t:jR)(h:j - 1≠id - 1):(db s id t).tx j=s.tx j:=by
 unfold dX.tx db;rw [aI,qf,aK (fun q=>h q.1),aI]
theorem my(s:dX)(id:Nat)(t:jR):(db s id t).dW.length=s.dW.length:=by simp [db]
theorem yGe(s:dX)(id:Nat)(st:Int):(oq s id st).dW.length=s.dW.length:=my _ _ _
theorem ML(s:dX)(id:Nat):(gi s id).dW.length=s.dW.length:=by
 unfold gi;rw [yGe];split
 ·exact my _ _ _
 ·rfl
theorem zZx(s:dX)(id:Nat)(st:Int):(oq s id st).lines=s.lines:=rfl
theorem Ea(s:dX)(id:Nat):(gi s id).lines=s.lines:=by
 unfold gi;rw [zZx];split <;> rfl
theorem UK(n c g:Nat)(y:dY)(s:dX)(id:Nat)(st:Int)(w:World)(h:dx w n c g y s)(h1:1<=id)(h2:id<=s.dW.length)(hl:s.dW.length<=60)(hc:c<=10000) :
  Calls Tryz.prog 63 #[.pointer (some ⟨g,0,none⟩),.int .i64 id,.int .i64 st] w fun e w'=>e=.returned (.tuple #[])/\∃ y',dx w' n c g y' (oq s id st)/\eL w y w' y':=by
 obtain ⟨b,hb,hT⟩:=h.xc h1 h2;have HT:=dV (yg n c g y s id b w h h1 (by omega) hb);have hti:=uG h1 h2;have c0:=hT.blk.cell 0 rfl;have c2:=hT.blk.cell 2 rfl;have f0:=hT.blk.frozen 0;have f2:=hT.blk.frozen 2;have zb:=hT.blk.lt;obtain ⟨w1,hw1⟩:∃ x,x=(w.setCell ⟨b,0,none⟩ (.int .i64 st)).setCell ⟨b,2,none⟩ (.slice none 0 0):=⟨_,rfl⟩;have dh:Mod (eA b) w w1:=by rw [hw1];exact (Mod.dt b 0 _).trans (Mod.dt b 2 _)
 have ff:dg w1 b [.int .i64 st,y.jQ b,.slice none 0 0,.int .i64 (s.tx id).time] 86:=by rw [hw1];exact (hT.blk.set 0 _).set 2 _
 have pD:=oP hT.ats hT.blk (by decide);obtain ⟨jy,hS1⟩:=h.po hb hti (t':={ s.tx id with state:=st,writes:=[] }) (av:=y.jQ b) (wv:=.slice none 0 0) (dh.mono (fun x _ e=>.inl e)) ff (fm hT.ats dh (fun k _ _ e q=>pD (by rw [e];exact ai some q))) (World.ownsRow_nil _ _ _ _) (.inl (.inl rfl)) (.inr rfl);rw [Js] at jy;have pU:eL w y w1 (y.jj w b (y.jQ b) (.slice none 0 0)):=⟨hS1,rfl,rfl,rfl,rfl,rfl⟩;generalize y.jj w b (y.jQ b) (.slice none 0 0)=y1 at jy pU;have hg1:=jy.blk.cell 5 rfl;have HR:=dV (yFb n 120 (y1.tb g (db s id { s.tx id with state:=st,writes:=[] }).net.lost) _ id w1 jy.xd (by show 84≠202;decide) (by omega) (by have:=jy.qn.2.2;show y1.q.n<=10000;omega) (aJ jy.low (Nat.le_of_lt jy.blk.lt)));have HH:=dV jy;have HK:=dV pU;clear h hT hb hti dh ff hS1 jy pU pD;go_enter Tryz.func63,Tryz.ntmps63;go_wp2_with (first
  | (go_at_call 34;refine HT.out.mono ?_;rintro e w2 ⟨rfl,rfl⟩)
  | fail)
 rw [<-hw1];refine HR.out.mono ?_;rintro e w3 ⟨gv,q',ks,rfl,hQ⟩;obtain ⟨sJ,PB⟩:=HH.out.Em (c':=c) hQ.md hQ.tb hQ.b hQ.pre hQ.post hQ.ty (aJ hQ.n HH.out.qn.2.2) hQ.own hQ.tb.few;have HF:Hid (∃ y',dx w3 n c g y' (oq s id st)/\eL w2 y w3 y'):=⟨_,sJ,HK.out.trans ⟨PB,rfl,rfl,rfl,rfl,rfl⟩⟩;clear sJ PB hQ HH HK HR HT hw1 c0 c2 f0 f2;go_wp2_with fail;go_end0;exact ⟨rfl,HF.out⟩
def Vi:Array Value:=#[.int .i64 0]
def wC(n:Nat):List Value:=(Builtin.zeroCells Vi n).toList
theorem KH(n:Nat):(wC n).length=n:=by rw [wC,cK,size_zeroCells];show n*1=n;omega
theorem zSz(n:Nat):∀ v∈wC n,v=.int .i64 0:=by
 intro v hv;simp only [wC,Builtin.zeroCells,dM,af] at hv;obtain ⟨i,_,rfl⟩:=hv;have:i % Vi.size=0:=Nat.mod_one i;rw [this];rfl
theorem yIs(n:Nat):wC n=(List.replicate n (0:Int)).map (Value.int .i64):=by
 rw [List.map_replicate];exact List.eq_replicate_iff.2 ⟨KH n,zSz n⟩
theorem yUg(w:World):(zeroValue 3).run Tryz.prog w=.ok (.int .i64 0) w:=by kernel_rfl
theorem yFa(w:World)(ty:TypeId)(b n c:Nat)(hn:0<n)(hc:∀ j,j<n->(w.cell? ⟨b,0+j,none⟩).isSome=true)(hf:∀ j,j<n->w.frozen? ⟨b,0+j,none⟩=false) :
  (Builtin.clear_ #[26] ty #[.slice (some ⟨b,0,none⟩) n c]).run Tryz.prog w=.ok (.tuple #[]) (w.setCells b 0 (wC n)):=by
 have hst:=run_storeCells_cells (P:=Tryz.prog) b 0 (wC n) 0 w (by simpa [KH] using hc) (by simpa [KH] using hf) (fun v hv=>by rw [zSz n v hv];rfl);simp only [bG] at hst;obtain ⟨m,rfl⟩:∃ m,n=m+1:=⟨n - 1,by omega⟩;have hz:=yUg;have e:(Value.cells (.int .i64 0))=Vi:=rfl;simp only [wC] at hst ⊢;simp [Builtin.clear_,run_underlying Tryz.underlying26,hz,e,hst]
theorem zVs{w:World}{ops:Array Oper}{rest:List Oper}{o:Oper}{a:Act}{Q:Exit->Act->World->Prop}(hgd:o.guard=none)(s:Operand)
  (ho:o.op=.call { callee:=.builtin .clear,args:=#[s],argTypes:=#[26] }) (b n c:Nat) (hs:a.eval s=.slice (some ⟨b,0,none⟩) n c) (hn:0<n)
  (hc:∀ j,j<n->(w.cell? ⟨b,0+j,none⟩).isSome=true) (hf:∀ j,j<n->w.frozen? ⟨b,0+j,none⟩=false)
  (h:wpList Tryz.prog ops Q rest (a.put o.dst (.tuple #[])) (w.setCells b 0 (wC n))):wpList Tryz.prog ops Q (o :: rest) a w:=by
 refine wpList_plain hgd fun K hK=>?_;have hr:=yFa w o.type b n c hn hc hf;unfold Oper.wp execOp;simp only [ho,resolve,invoke,builtin,Sem.run_bind,Sem.run_pure,Result.andThen_ok,bz,bW,cM,hs,hr];exact hK _ _ h
theorem yMz{w:World}{B:Nat}{b m cap:Nat}{l:List Int}(h:w.ownsRow B 3 1 (.slice (some ⟨b,0,none⟩) m cap) l.length (l.map (Value.int .i64))):(w.setCells b 0 (wC l.length)).ownsRow B 3 1 (.slice (some ⟨b,0,none⟩) m cap) l.length ((l.map fun _=>(0:Int)).map (Value.int .i64))/\Mod (eA b) w (w.setCells b 0 (wC l.length))/\(∀ j,j<l.length->(w.cell? ⟨b,0+j,none⟩).isSome=true)/\(∀ j,w.frozen? ⟨b,0+j,none⟩=false):=by
 obtain ⟨h1,h2⟩:=h;rcases h2 with ⟨e,_⟩ | ⟨b',cap',cur,e,q1,q2,q3,q4,q5,q6⟩
 ·simp at e
 ·simp only [Value.slice.injEq,ae,Addr.mk.injEq] at e;obtain ⟨⟨rfl,_,_⟩,rfl,rfl⟩:=e;have hB:dg w b ([]++l.map (Value.int .i64)++cur.toList.drop l.length) 3:=by
   unfold dg;rw [q2];congr 2;apply Array.ext';simp only [aY];have:cur.toList.take l.length=l.map (Value.int .i64):=by simpa using q6
   rw [<-this,aq]
  have gp:=dg.kO (g:=b) (t:=3) (wC l.length) w [] (l.map (Value.int .i64)) (cur.toList.drop l.length) hB (by simp [KH]);have hcs:l.length<=cur.size:=by omega
  refine ⟨⟨by simp,.inr ⟨b,cap,(wC l.length++cur.toList.drop l.length).toArray,rfl,q1,?_,q3,q4,?_,?_⟩⟩,Mod.kO _ _ _,fun j hj=>?_,fun j=>hB.frozen _⟩
  ·unfold dg at gp;simpa using gp
  ·simp only [bC,aD,KH,bO,cK];omega
  ·have e1:(l.map fun _=>(0:Int))=List.replicate l.length 0:=List.eq_replicate_iff.2 ⟨by rw [ar],fun b hb=>by obtain ⟨_,_,e⟩:=af.1 hb;exact e.symm⟩;rw [e1,<-yIs];simp [KH]
  ·obtain ⟨x,hx⟩:∃ x,([]++l.map (Value.int .i64)++cur.toList.drop l.length)[0+j]?=some x:=⟨_,aA (by simp;omega)⟩;rw [hB.cell (0+j) hx];rfl
theorem Tj(n c g:Nat)(y:dY)(s:dX)(id:Nat)(w:World)(h:dx w n c g y s)(h1:1<=id)(h2:id<=s.dW.length)(hl:s.dW.length<=60)(hc:c<=10000)(ha:0<(s.tx id).ats.length) :
  Calls Tryz.prog 36 #[.pointer (some ⟨g,0,none⟩),.int .i64 id] w fun e w'=>e=.returned (.tuple #[])/\∃ y',dx w' n c g y' (gi s id)/\eL w y w' y':=by
 obtain ⟨b,hb,hT⟩:=h.xc h1 h2;have HT:=dV (yg n c g y s id b w h h1 (by omega) hb);have hti:=uG h1 h2;have c0:=hT.blk.cell 0 rfl;have c1:=hT.blk.cell 1 rfl;by_cases hs1:(s.tx id).state=1
 ·obtain ⟨ab,rH,np⟩:∃ ab rH,y.jQ b=.slice (some ⟨ab,0,none⟩) (s.tx id).ats.length rH:=by
   rcases hT.ats.2 with ⟨e,h0⟩ | ⟨g',cap',cur,e,_⟩
   ·omega
   ·exact ⟨g',cap',e⟩
  have hrow:=hT.ats;rw [np] at hrow c1;obtain ⟨r1,r2,r3,r4⟩:=yMz hrow;have pD:ab≠b:=fun e=>oP hrow hT.blk (by decide) (by rw [e];rfl);have hne:∀ k,(y.jq b).ownBlock=some k->k≠ab:=fun k hk e=>by
   subst e;obtain ⟨_,_,cur,hc1⟩:=fW hT.wr hk;obtain ⟨_,_,cur',hc2⟩:=fW hrow rfl;rw [hc1] at hc2;simp at hc2
  obtain ⟨w1,hw1⟩:∃ x,x=w.setCells ab 0 (wC (s.tx id).ats.length):=⟨_,rfl⟩;rw [<-hw1] at r1 r2;obtain ⟨jy,hS1⟩:=h.po hb hti (t':={ s.tx id with ats:=(s.tx id).ats.map fun _=>0 }) (av:=y.jQ b) (wv:=y.jq b) (r2.mono (fun x _ e=>.inr (.inl (by rw [np];exact ai some (Eq.symm e))))) (hT.blk.mod r2 (fun e=>pD (Eq.symm e))) (by rw [np,ar];exact r1) (fm hT.wr r2 (fun k _ _ e q=>hne k e q)) (.inl (.inl rfl)) (.inl (.inl rfl));rw [Js] at jy;have pU:eL w y w1 (y.jj w b (y.jQ b) (y.jq b)):=⟨hS1,rfl,rfl,rfl,rfl,rfl⟩;generalize y.jj w b (y.jQ b) (y.jq b)=y1 at jy pU;have Fx:=dV (UK n c g y1 _ id 4 w1 jy h1 (by rw [my];exact h2) (by rw [my];exact hl) hc);have sb:Hid (gi s id=oq (db s id { s.tx id with ats:=(s.tx id).ats.map fun _=>0 }) id 4):=by unfold Hid gi;rw [aP hs1]
  have AP:((s.tx id).state == 1)=true:=by simpa using hs1
  have HK:=dV pU;have BF:=dV r3;have Zd:Hid (∀ j,j<(s.tx id).ats.length->w.frozen? ⟨ab,0+j,none⟩=false):=fun j _=>r4 j;clear h hT hb hti hrow r1 r2 r3 r4 jy pU hS1 hs1 np hne;go_enter Tryz.func36,Tryz.ntmps36;go_wp2_with (first
   | (go_at_call 34;refine HT.out.mono ?_;rintro e w2 ⟨rfl,rfl⟩)
   | (refine zVs rfl _ rfl ab (s.tx id).ats.length _ rfl ha BF.out Zd.out ?_;rw [<-hw1];clear hw1)
   | (go_at_call 63;refine Fx.out.mono ?_;rintro e w3 ⟨rfl,y3,sJ,hK3⟩;(have HF:Hid (∃ y',dx w3 n c g y' (gi s id)/\eL w2 y w3 y'):=⟨y3,by rw [sb.out];exact sJ,HK.out.trans hK3⟩);clear sJ hK3)
   | fail)
  go_end0;exact ⟨rfl,HF.out⟩
 ·have Fx:=dV (UK n c g y s id 4 w h h1 h2 hl hc);have sb:Hid (gi s id=oq s id 4):=by unfold Hid gi;rw [aK hs1]
  have AP:((s.tx id).state == 1)=false:=by simpa using hs1
  clear h hT hb hti hs1 c1;go_enter Tryz.func36,Tryz.ntmps36;go_wp2_with (first
   | (go_at_call 34;refine HT.out.mono ?_;rintro e w2 ⟨rfl,rfl⟩)
   | (go_at_call 63;refine Fx.out.mono ?_;rintro e w3 ⟨rfl,y3,sJ,hK3⟩;(have HF:Hid (∃ y',dx w3 n c g y' (gi s id)/\eL w2 y w3 y'):=⟨y3,by rw [sb.out];exact sJ,hK3⟩);clear sJ hK3)
   | fail)
  go_end0;exact ⟨rfl,HF.out⟩
structure gG(s s':dX):Prop where
 l:s'.lines=s.lines
 d:s'.dead=s.dead
 net:s'.net=s.net
 len:s'.dW.length=s.dW.length
 at_:∀ j,(s'.tx j).ats.length=(s.tx j).ats.length
theorem gG.refl(s:dX):gG s s:=⟨rfl,rfl,rfl,rfl,fun _=>rfl⟩
theorem gG.trans{a b c:dX}(h:gG a b)(k:gG b c):gG a c:=⟨k.l.trans h.l,k.d.trans h.d,k.net.trans h.net,k.len.trans h.len,fun j=>(k.at_ j).trans (h.at_ j)⟩
theorem yMw(s:dX)(id:Nat)(t:jR)(j:Nat):(db s id t).tx j=s.tx j\/((db s id t).tx j=t/\j - 1=id - 1):=by
 by_cases h:j - 1=id - 1
 ·by_cases h2:id - 1<s.dW.length
  ·refine .inr ⟨?_,h⟩;unfold dX.tx db;rw [aI,qf,aP ⟨h,by omega⟩];rfl
  ·refine .inl ?_;unfold dX.tx db;rw [aI,qf,aK (fun q=>by omega),aI]
 ·exact .inl (xV s t h)
theorem gG.db(s:dX)(id:Nat)(t:jR)(h:t.ats.length=(s.tx id).ats.length):gG s (db s id t):=by
 refine ⟨rfl,rfl,rfl,my _ _ _,fun j=>?_⟩;rcases yMw s id t j with e | ⟨e,q⟩
 ·rw [e]
 ·rw [e,h];have:s.tx j=s.tx id:=by unfold dX.tx;rw [q]
  rw [this]
theorem gG.finish(s:dX)(id:Nat)(st:Int):gG s (oq s id st):=by
 have h:=gG.db s id { s.tx id with state:=st,writes:=[] } rfl;exact ⟨rfl,rfl,rfl,h.len,h.at_⟩
theorem gG.abort(s:dX)(id:Nat):gG s (gi s id):=by
 unfold gi;split
 ·exact (gG.db s id { s.tx id with ats:=(s.tx id).ats.map fun _=>0 } (by simp)).trans (gG.finish _ id 4)
 ·exact gG.finish s id 4
def eH(h:dX)(i:Int):dX:=if (h.tx i.toNat).state=1 then gi h i.toNat else h
theorem yMb(s:dX)(ids:List Int):jV s ids=ids.foldl eH s:=rfl
theorem gG.eH(s:dX)(i:Int):gG s (eH s i):=by
 unfold Go.Proofs.YtmaiggbnceejiaaGreatDoor.eH;split
 ·exact gG.abort s _
 ·exact gG.refl s
theorem gG.fc:∀ (ids:List Int) (s:dX),gG s (jV s ids)
 | [],s=>gG.refl s
 | i :: ids,s=>(gG.eH s i).trans (gG.fc ids _)
theorem yEo(s:dX)(ids:List Int)(i:Int):jV s (ids++[i])=eH (jV s ids) i:=by simp [yMb,List.foldl_append]
def zM(w:World)(y:dY)(v:Value)(l:List Int):Prop:=fV w w.heap.size 1 KR v l/\∀ k,v.ownBlock=some k->y.own k=.no/\k<w.heap.size
theorem zM.keep{w w':World}{y y':dY}{v:Value}{l:List Int}(h:zM w y v l)(k:iG w y w' y'):zM w' y' v l:=by
 obtain ⟨⟨a,cap,h2,h3,h4,h5⟩,hn⟩:=h;refine ⟨⟨a,cap,h2,h3,h4,?_⟩,fun z hz=>⟨by rw [k.old z (hn z hz).2];exact (hn z hz).1,aH (hn z hz).2 k.size⟩⟩;rcases h5 with h5 | ⟨b,off,h6,h7,h8⟩
 ·exact .inl h5
 ·refine .inr ⟨b,off,h6,aH h7 k.size,fun i d hi=>?_⟩;obtain ⟨x,hx,hx2,hx3⟩:=h8 i d hi;exact ⟨x,hx,hx2,fun j u hu=>k.md.cell (hx3 j u hu) (fun e=>e (hn b (by rw [h2,h6];rfl)).1)⟩
theorem zM.at{w:World}{y:dY}{a:Option Addr}{m cap:Nat}{l:List Int}(h:zM w y (.slice a m cap) l){i:Nat}{x:Int}(hi:l[i]?=some x):∃ b off,a=some ⟨b,off,none⟩/\w.cell? ⟨b,off+i,none⟩=some (.int .i64 x):=by
 obtain ⟨b,off,cs,h1,h2,h3,_,h5⟩:=fV.at h.1 hi;unfold KR at h3;subst h3;have:=h5 0 _ rfl;simp only [bG,cZ] at this;exact ⟨b,off,h1,this⟩
theorem TW{w:World}{B:Nat}{v:Value}{l:List Int}(h:jM w B v l):fV w w.heap.size 1 KR v l:=by
 obtain ⟨h1,h2⟩:=h;rcases h2 with ⟨rfl,hn⟩ | ⟨g,cap,cur,rfl,q1,q2,q3,q4,q5,q6⟩
 ·have:l=[]:=aR hn;subst this;exact fV.nil _ _ _ _
 ·have hc:jM w B (.slice (some ⟨g,0,none⟩) l.length cap) l:=⟨h1,.inr ⟨g,cap,cur,rfl,q1,q2,q3,q4,q5,q6⟩⟩;have hgl:g<w.heap.size:=(aG.1 q2).1;refine ⟨_,cap,rfl,q3,q4,.inr ⟨g,0,rfl,by omega,fun i o hi=>⟨[.int .i64 o],rfl,rfl,fun j x hx=>?_⟩⟩⟩;have hcc:w.ownsRow B 3 1 (.slice (some ⟨g,0,none⟩) l.length cap) l.length (EO l):=hc;have e2:=hcc.cells (g:=g) rfl i (.int .i64 o) (by simp [EO,hi]);rw [Go.WideShapes.add_plain,aX] at e2;have hj:j=0:=by have:=(aB.1 hx).1;simp at this;omega
  subst hj;simp at hx;subst hx;simpa using e2
theorem yAo(n c g:Nat)(y:dY)(s:dX)(v:Value)(ids:List Int)(w:World)(h:dx w n c g y s)(hs:lr s)(hc:c<=10000)(hv:zM w y v ids)(hi:∀ i∈ids,1<=i/\i<=(s.dW.length:Int)) :
  Calls Tryz.prog 68 #[.pointer (some ⟨g,0,none⟩),v] w fun e w'=>e=.returned (.tuple #[])/\∃ y',dx w' n c g y' (jV s ids)/\eL w y w' y':=by
 obtain ⟨a,cap,rfl,hc1,hc2⟩:=fV.slice hv.1;unfold maxLen at hc2;have HV:=dV hv;have HI:=dV hi;have HH:=dV h;have htl:=hs.tl;have ZS:=dV hs.ta;have hll:=hs.ll;clear hv hi h hs;go_enter Tryz.func68,Tryz.ntmps68;go_wp2_with fail;go_loopw [8] (fun i0 wr=>∃ (i:Nat) (yr:dY),i<=ids.length/\i0=.int .i64 i/\dx wr n c g yr (jV s (ids.take i))/\eL w y wr yr) (fun i0 _=>ids.length - (intOf i0).toNat)
 case atStart=>exact ⟨0,y,aT _,rfl,by rw [bf];exact HH.out,eL.refl _ _⟩
 case round=>
  obtain ⟨i,yr,hil,rfl,hH,hK⟩:=hrel;by_cases hlt:i<ids.length
  ·obtain ⟨x,hx⟩:∃ x,ids[i]?=some x:=⟨_,aA hlt⟩;obtain ⟨b,off,rfl,q0⟩:=(HV.out.keep hK.st).at hx;obtain ⟨hx1,hx2⟩:=HI.out x (aC hx);obtain ⟨id,rfl⟩:∃ id:Nat,x=id:=⟨x.toNat,by omega⟩;have hsame:=gG.fc (ids.take i) s;have hle:id<=(jV s (ids.take i)).dW.length:=by rw [hsame.len];omega
   obtain ⟨tb,By,hT⟩:=hH.xc (id:=id) (by omega) hle;have t0:=hT.blk.cell 0 rfl;have HT:=dV (yg n c g yr _ id tb wr hH (by omega) (by omega) By);have qE:0<((jV s (ids.take i)).tx id).ats.length:=by
    rw [hsame.at_ id,ZS.out _ (Cf (by omega) (by omega))];omega
   have sb:=dV (Tj n c g yr _ id wr hH (by omega) hle (by rw [hsame.len];exact htl) hc qE);have xA:Hid (jV s (ids.take (i+1))=eH (jV s (ids.take i)) id):=by unfold Hid;rw [qg hx,yEo]
   have HK:=dV hK;have HHr:=dV hH;have jd:(i:Int)<(ids.length:Int):=by omega
   have hi0:(0:Int)<=(i:Int):=by omega
   clear hH hK hT By hx hsame qE hx1 hx2 HV;by_cases hs1:((jV s (ids.take i)).tx id).state=1
   ·have AP:(((jV s (ids.take i)).tx id).state == 1)=true:=by simpa using hs1
    have LL:Hid (eH (jV s (ids.take i)) id=gi (jV s (ids.take i)) id):=by unfold Hid eH;rw [aV,aP hs1]
    clear hs1;go_wp2_with (first
     | (go_at_call 34;refine HT.out.mono ?_;rintro e w2 ⟨rfl,rfl⟩)
     | (go_at_call 36;refine sb.out.mono ?_;rintro e w3 ⟨rfl,y3,sJ,hK3⟩;(have HF:Hid (dx w3 n c g y3 (jV s (ids.take (i+1)))/\eL w y w3 y3):=⟨by rw [xA.out,LL.out];exact sJ,HK.out.trans hK3⟩);clear sJ hK3)
     | fail)
    go_roundw
    case rel=>exact ⟨i+1,y3,by omega,by go_num,HF.out.1,HF.out.2⟩
    case measure=>simp [intOf];omega
   ·have AP:(((jV s (ids.take i)).tx id).state == 1)=false:=by simpa using hs1
    have LL:Hid (eH (jV s (ids.take i)) id=jV s (ids.take i)):=by unfold Hid eH;rw [aV,aK hs1]
    clear hs1;go_wp2_with (first
     | (go_at_call 34;refine HT.out.mono ?_;rintro e w2 ⟨rfl,rfl⟩)
     | fail)
    go_roundw
    case rel=>exact ⟨i+1,yr,by omega,by go_num,by rw [xA.out,LL.out];exact HHr.out,HK.out⟩
    case measure=>simp [intOf];omega
  ·obtain rfl:i=ids.length:=by omega
   rw [bJ] at hH;have HF:Hid (∃ y',dx wr n c g y' (jV s ids)/\eL w y wr y'):=⟨yr,hH,hK⟩;clear hH hK;go_wp2_with fail;go_end0;exact ⟨rfl,HF.out⟩
def sn(s:dX)(id:Int)(key:ByteArray)(m:Nat):List Int:=((List.range m).map fun (i:Nat)=>(i:Int)+1).filter fun o=>decide (o≠id) && decide (iw (s.keys key).held o≠0)
theorem yBt(s:dX)(id:Int)(key:ByteArray)(m:Nat):sn s id key (m+1)=if ((m:Int)+1≠id/\iw (s.keys key).held ((m:Int)+1)≠0) then sn s id key m++[(m:Int)+1] else sn s id key m:=by
 unfold sn;rw [aj,ay,dJ];by_cases h1:(m:Int)+1≠id <;> by_cases h2:iw (s.keys key).held ((m:Int)+1)≠0 <;> simp [h1,h2]
theorem Uj(s:dX)(id:Int)(key:ByteArray)(m:Nat):(sn s id key m).length<=m:=by
 refine aJ (bB _ _) ?_;simp
theorem Rb{s:dX}{id o:Int}{key:ByteArray}(h:o∈oO s id key):1<=o/\o<=(s.dW.length:Int):=by
 obtain ⟨h1,_⟩:=bE.1 h;obtain ⟨i,hi,rfl⟩:=af.1 h1;have:=bZ.1 hi;omega
theorem dx.holds{w:World}{n c g:Nat}{y:dY}{s:dX}(h:dx w n c g y s)(t:Int)(key:ByteArray)(hk:gA key) :
  Calls Tryz.prog 70 #[.pointer (some ⟨g,5,none⟩),.int .i64 t,.string key] w fun e w'=>e=.returned (.int .i64 (iw (s.keys key).held t))/\Mod dZ w w':=
 yOm n 120 (y.tb g s.net.lost) s.keys t key w h.xd hk (by omega)
theorem zWy(n c g:Nat)(y:dY)(s:dX)(id:Int)(key:ByteArray)(w:World)(h:dx w n c g y s)(hl:s.dW.length<=60)(hk:gA key) :
  Calls Tryz.prog 69 #[.pointer (some ⟨g,0,none⟩),.int .i64 id,.string key] w fun e w'=>∃ u,e=.returned u/\jM w' w.heap.size u (oO s id key)/\Mod dZ w w':=by
 obtain ⟨j0,hj,Hf,He,Hd⟩:=info_parts Tryz.ry;have CS:Hid (jM w w.heap.size (.slice none 0 0) []):=World.ownsRow_nil _ _ _ _;have HH:=dV h;clear h;go_enter Tryz.func69,Tryz.ntmps69;go_wp2_with fail;go_loopw [7,8] (fun u i wr=>∃ k:Nat,k<=s.dW.length/\i=.int .i64 ((k:Int)+1)/\jM wr w.heap.size u (sn s id key k)/\Mod dZ w wr) (fun _ i _=>s.dW.length+1 - (intOf i).toNat)
 case atStart=>exact ⟨0,aT _,rfl,CS.out,Mod.refl _ _⟩
 case round=>
  obtain ⟨k,hkl,rfl,hrow,hM⟩:=hrel;obtain ⟨ua,dp,rfl⟩:=eu hrow;have Af:=HH.out.quiet hM;obtain ⟨-,-,-,-,-,-,c6⟩:=kF Af.blk;obtain ⟨ta,gL,oS⟩:=eu Af.gW;rw [oS,Af.kN] at c6;have HM:=dV hM;have fY:=dV hrow;have JZ:=dV (Af.holds ((k:Int)+1) key hk);have hlk:=Uj s id key k;have jz:=dV (yBt s id key k);clear hrow hM CS Af oS;by_cases hlt:k<s.dW.length
  ·have hle:decide ((k:Int)+1<=(s.dW.length:Int))=true:=aQ (by omega);by_cases he:(k:Int)+1=id
   ·have Ib:(((k:Int)+1) != id)=false:=by simpa using he
    have HN:Hid (sn s id key (k+1)=sn s id key k):=by unfold Hid;rw [jz.out,aK (fun q=>q.1 he)]
    clear he jz JZ;go_wp2_with fail;go_roundw
    case rel=>exact ⟨k+1,by omega,by go_num,by rw [HN.out];exact fY.out,HM.out⟩
    case measure=>simp [intOf];omega
   ·have Ib:(((k:Int)+1) != id)=true:=by simpa using he
    by_cases hmo:iw (s.keys key).held ((k:Int)+1)=0
    ·have hmb:(iw (s.keys key).held ((k:Int)+1) != 0)=false:=by simpa using hmo
     have HN:Hid (sn s id key (k+1)=sn s id key k):=by unfold Hid;rw [jz.out,aK (fun q=>q.2 hmo)]
     clear he jz hmo;go_wp2_with (first
      | (go_at_call 70;refine JZ.out.mono ?_;rintro e w2 ⟨rfl,hm2⟩;have gE:=dV (HM.out.trans hm2);have CR:=dV (fY.out.mod hm2 (fun _ _ e=>e));clear hm2)
      | fail)
     go_roundw
     case rel=>exact ⟨k+1,by omega,by go_num,by rw [HN.out];exact CR.out,gE.out⟩
     case measure=>simp [intOf];omega
    ·have hmb:(iw (s.keys key).held ((k:Int)+1) != 0)=true:=by simpa using hmo
     have HN:Hid (sn s id key (k+1)=sn s id key k++[(k:Int)+1]):=by unfold Hid;rw [jz.out,aP ⟨he,hmo⟩]
     have iJ:(sn s id key k).length+1<=maxLen:=by unfold maxLen;omega
     have iK:((sn s id key k).length+1)*8<=140737488355328:=by omega
     clear he jz hmo;go_upto_region 6 with (first
      | (go_at_call 70;refine JZ.out.mono ?_;rintro e w2 ⟨rfl,hm2⟩;have gE:=dV (HM.out.trans hm2);have CR:Hid (w2.ownsRow w.heap.size 3 1 (.slice ua (sn s id key k).length dp) (sn s id key k).length (EO (sn s id key k))):=fY.out.mod hm2 (fun _ _ e=>e);clear hm2)
      | fail)
     have hz2:=gE.out.size;go_wp2_with (first
      | (at_builtin;refine wpList_append_own_at _ rfl (.tmp 30) (.tmp 32) 26 rfl w.heap.size 3 j0 _ 1 8 Tryz.underlying26 hj Hf He Hd rfl (by decide) _ _ _ rfl (CR.out.alloc _) ⟨w2.heap.size,0,none⟩ 1 1 [.int .i64 ((k:Int)+1)] rfl rfl (World.news_of_block (heap_alloc_new w2 _)) (by simp [Value.oneCell']) iJ iK (by simp;omega) ?_)
      | fail)
     intro v7 w7 eJ eS _ iq;have iO:Mod dZ w w7:=(gE.out.alloc _).grown eS (fun y hy hlt=>by have:=(mT CR.out hy).1;omega);obtain ⟨a7,fE,py⟩:=eu eJ;subst py;have Pf:=dV eJ;have yQ:=dV iO;clear eJ eS iq iO;go_wp2_with fail;go_roundw
     case rel=>
      refine ⟨k+1,by omega,by go_num,?_,yQ.out⟩;rw [HN.out];unfold jM;rw [zOc,aD];exact Pf.out
     case measure=>simp [intOf];omega
  ·obtain rfl:k=s.dW.length:=by omega
   have hle:decide (((s.dW.length:Nat):Int)+1<=(s.dW.length:Int))=false:=aL (by omega);clear jz JZ;go_wp2_with fail;go_ret;exact ⟨_,rfl,fY.out,HM.out⟩
theorem yIt(n c g q1 q2:Nat)(y:dY)(s:dX)(id o:Int)(w:World)(h:dx w n c g y s)(hl:s.dW.length<=60)(ho:1<=o/\o<=(s.dW.length:Int))(h1:w.cell? ⟨q1,0,none⟩=some (.int .i64 id))(h2:w.cell? ⟨q2,0,none⟩=some (.pointer (some ⟨g,0,none⟩))) :
  Calls Tryz.prog 92 #[.int .i64 o,.pointer (some ⟨q1,0,none⟩),.pointer (some ⟨q2,0,none⟩)] w fun e w'=>e=.returned (.bool (decide (o<id) || decide ((s.tx o.toNat).state≠1)))/\Mod dZ w w':=by
 obtain ⟨i,rfl⟩:∃ i:Nat,o=i:=⟨o.toNat,by omega⟩;rw [aV];obtain ⟨b,hb,hT⟩:=h.xc (id:=i) (by omega) (by omega);have HT:=dV (yg n c g y s i b w h (by omega) (by omega) hb);have t0:=hT.blk.cell 0 rfl;clear h hT hb;by_cases hlt:(i:Int)<id
 ·have hd:decide ((i:Int)<id)=true:=aQ hlt;clear hlt;go_enter Tryz.func92,Tryz.ntmps92;go_wp2_with fail;go_ret;exact ⟨by rw [hd];rfl,Mod.refl _ _⟩
 ·have hd:decide ((i:Int)<id)=false:=aL hlt;by_cases hs:(s.tx i).state=1
  ·have AP:((s.tx i).state != 1)=false:=by simpa using hs
   have HD:Hid (decide ((s.tx i).state≠1)=false):=aL (fun q=>q hs);clear hlt hs;go_enter Tryz.func92,Tryz.ntmps92;go_wp2_with (first
    | (go_at_call 34;refine HT.out.mono ?_;rintro e w2 ⟨rfl,rfl⟩)
    | fail)
   go_ret;exact ⟨by rw [hd,HD.out];rfl,Mod.refl _ _⟩
  ·have AP:((s.tx i).state != 1)=true:=by simpa using hs
   have HD:Hid (decide ((s.tx i).state≠1)=true):=aQ hs;clear hlt hs;go_enter Tryz.func92,Tryz.ntmps92;go_wp2_with (first
    | (go_at_call 34;refine HT.out.mono ?_;rintro e w2 ⟨rfl,rfl⟩)
    | fail)
   go_ret;exact ⟨by rw [hd,HD.out];rfl,Mod.refl _ _⟩
theorem yAk(n c g:Nat)(y:dY)(s:dX)(id:Int)(key:ByteArray)(w:World)(h:dx w n c g y s)(hl:s.dW.length<=60)(hk:gA key) :
  Calls Tryz.prog 51 #[.pointer (some ⟨g,0,none⟩),.int .i64 id,.string key] w fun e w'=>e=.returned (.bool (oo s id key))/\Mod dZ w w':=by
 obtain ⟨w1,hw1⟩:∃ x,x=w.alloc (.cells #[.pointer (some ⟨g,0,none⟩)] 35):=⟨_,rfl⟩;obtain ⟨w2,hw2⟩:∃ x,x=w1.alloc (.cells #[.int .i64 id] 3):=⟨_,rfl⟩;have dh:Mod dZ w w1:=by rw [hw1];exact (Mod.refl _ w).alloc _
 have hm2:Mod dZ w1 w2:=by rw [hw2];exact (Mod.refl _ w1).alloc _
 have hz1:w1.heap.size=w.heap.size+1:=by rw [hw1,World.size_alloc]
 have hb1:dg w2 w.heap.size [.pointer (some ⟨g,0,none⟩)] 35:=dg.mod (by rw [hw1];exact dg.new w _ _) hm2 (fun e=>e);have hb2:dg w2 (w.heap.size+1) [.int .i64 id] 3:=by rw [<-hz1,hw2];exact dg.new w1 _ _
 have hm:=dh.trans hm2;have qt:=h.quiet hm;have x1:=hb1.cell 0 rfl;have x2:=hb2.cell 0 rfl;have QA:=dV (zWy n c g y s id key w2 qt hl hk);have tF:∀ fn first cap w,(Instr.makeFunc fn first cap).run Tryz.prog w=.ok (.func fn first cap) w:=fun _ _ _ _=>rfl
 have HH:=dV qt;have HM:=dV hm;have ZM:=dV x1;have HX2:=dV x2;clear h dh hm2 hb1 hb2 hm qt hz1;go_enter Tryz.func51,Tryz.ntmps51;go_upto_region 1 with fail;rw [<-hw1,<-hw2];clear hw1 hw2;go_wp2_with fail;refine QA.out.mono ?_;rintro e w3 ⟨u,rfl,hu,dy⟩;have HA:mO 92 #[.pointer (some ⟨w.heap.size+1,0,none⟩),.pointer (some ⟨w.heap.size,0,none⟩)] (fun d=>.int .i64 d) (oO s id key) (fun o=>decide (o<id) || decide ((s.tx o.toNat).state≠1)) (fun wr=>dx wr n c g y s/\wr.cell? ⟨w.heap.size+1,0,none⟩=some (.int .i64 id)/\wr.cell? ⟨w.heap.size,0,none⟩=some (.pointer (some ⟨g,0,none⟩))):=
  ⟨xL Tryz.func92 (by kernel_rfl) rfl,fun wa wb hh hm=>⟨hh.1.quiet hm,hm.cell hh.2.1 (fun e=>e),hm.cell hh.2.2 (fun e=>e)⟩,fun d hd wr hh=>yIt n c g _ _ y s id d wr hh.1 hl (Rb hd) hh.2.1 hh.2.2⟩
 have hlen:(oO s id key).length<=60:=aJ (Uj s id key s.dW.length) hl;have QW:=dV (zVw 92 w3.heap.size _ _ u (oO s id key) w3 _ (TW hu) HA ⟨HH.out.quiet dy,dy.cell HX2.out (fun e=>e),dy.cell ZM.out (fun e=>e)⟩ (by omega));obtain ⟨ua,uc,DJ⟩:=eu hu;subst DJ;have iI:=dV (HM.out.trans dy);clear hu HA dy QA;go_wp2_with fail;refine QW.out.mono ?_;rintro e w4 ⟨rfl,gR⟩;have HY:Hid (oo s id key=!((oO s id key).any fun o=>decide (o<id) || decide ((s.tx o.toNat).state≠1))):=rfl
 cases hb:(oO s id key).any fun o=>decide (o<id) || decide ((s.tx o.toNat).state≠1)
 all_goals
  rw [hb] at HY;go_wp2_with fail;go_ret;exact ⟨by rw [HY.out];rfl,iI.out.trans gR⟩
theorem th.mB{w:World}{n b:Nat}{y:dY}{t:jR}(h:th w n y b t):fV w w.heap.size 3 Ca (y.jq b) t.writes:=yBr h.wr
theorem yIu(q:Nat)(d:fQ)(key:ByteArray)(w:World)(h1:w.cell? ⟨q,0,none⟩=some (.string key)) :
  Calls Tryz.prog 133 #[.agg #[.string d.key,.string d.val,.bool d.gone],.pointer (some ⟨q,0,none⟩)] w fun e w'=>e=.returned (.bool (decide (d.key=key)))/\Mod dZ w w':=by
 obtain ⟨k,v,gn⟩:=d;dsimp only;obtain ⟨w1,hw1⟩:∃ z,z=w.alloc (.cells #[.string k,.string v,.bool gn] 68):=⟨_,rfl⟩;have dh:Mod dZ w w1:=by rw [hw1];exact (Mod.refl _ w).alloc _
 have hb1:dg w1 w.heap.size [.string k,.string v,.bool gn] 68:=by rw [hw1];exact dg.new w _ _
 have g1:=dh.cell h1 id;have b0:=hb1.cell 0 rfl;have HM:=dV dh;clear h1 hb1 dh;by_cases e:k=key
 ·have eb:(k.toList == key.toList)=true:=by rw [e];simp
  have HD:Hid (decide (k=key)=true):=aQ e;clear e;go_enter Tryz.func133,Tryz.ntmps133;go_upto_region 1 with fail;rw [<-hw1];clear hw1;go_wp2_with fail;go_ret;exact ⟨by rw [HD.out];first | rfl | (simp [eb]),HM.out⟩
 ·have eb:(k.toList == key.toList)=false:=by
   rw [bc];intro q;rw [ByteArray.toList_eq,ByteArray.toList_eq] at q;exact e (RN q)
  have HD:Hid (decide (k=key)=false):=aL e;clear e;go_enter Tryz.func133,Tryz.ntmps133;go_upto_region 1 with fail;rw [<-hw1];clear hw1;go_wp2_with fail;go_ret;exact ⟨by rw [HD.out];first | rfl | (simp [eb]),HM.out⟩
theorem UF(n b:Nat)(y:dY)(t:jR)(key:ByteArray)(w:World)(h:th w n y b t)(hl:t.writes.length<=1000) :
  Calls Tryz.prog 91 #[.pointer (some ⟨b,0,none⟩),.string key] w fun e w'=>e=.returned (.int .i64 (iR (uI t key)))/\Mod dZ w w':=by
 obtain ⟨w1,hw1⟩:∃ z,z=w.alloc (.cells #[.string key] 9):=⟨_,rfl⟩;have dh:Mod dZ w w1:=by rw [hw1];exact (Mod.refl _ w).alloc _
 have hb1:dg w1 w.heap.size [.string key] 9:=by rw [hw1];exact dg.new w _ _
 have h1:=h.mod dh (fun e=>e) (fun _ _ e=>e);have c2:=h1.blk.cell 2 rfl;obtain ⟨a,cap,hv⟩:=eu h1.wr;have HA:mO 133 #[.pointer (some ⟨w.heap.size,0,none⟩)] (fun d=>.agg #[.string d.key,.string d.val,.bool d.gone]) t.writes (fun p=>decide (p.key=key)) (fun wr=>wr.cell? ⟨w.heap.size,0,none⟩=some (.string key)):=
  ⟨xL Tryz.func133 (by kernel_rfl) rfl,fun wa wb hh hm=>hm.cell hh (fun e=>e),fun d hd wr hh=>yIu _ d key wr hh⟩
 have nW:=dV (zUh 133 w1.heap.size _ _ (y.jq b) t.writes w1 _ h1.mB HA (hb1.cell 0 rfl) (by omega));rw [hv] at c2 nW;have tF:∀ fn first cap w,(Instr.makeFunc fn first cap).run Tryz.prog w=.ok (.func fn first cap) w:=fun _ _ _ _=>rfl
 have HM:=dV dh;clear h h1 hv HA hb1 dh;go_enter Tryz.func91,Tryz.ntmps91;go_upto_region 1 with fail;rw [<-hw1];clear hw1;go_wp2_with fail;refine nW.out.mono ?_;rintro e w3 ⟨rfl,dy⟩;go_wp2_with fail;go_ret;exact ⟨rfl,HM.out.trans dy⟩
theorem yTa(n b:Nat)(y:dY)(t:jR)(key:ByteArray)(w:World)(h:th w n y b t)(hl:t.writes.length<=1000) :
  Calls Tryz.prog 50 #[.pointer (some ⟨b,0,none⟩),.string key] w fun e w'=>e=.returned (.bool (uC t key))/\Mod dZ w w':=by
 have HW:=dV (UF n b y t key w h hl);have c2:=h.blk.cell 2 rfl;obtain ⟨a,cap,hv⟩:=eu h.wr;rw [hv] at c2;clear h hv;by_cases hf:20<=t.writes.length
 ·have hd:decide ((t.writes.length:Int) ≥ 20)=true:=aQ (by omega);have HF:Hid (uC t key=(uI t key).isNone):=by unfold Hid uC;rw [aQ hf];rfl
  cases hw:uI t key with
  | none=>
   rw [hw] at HW HF;simp only [iR] at HW;clear hf;go_enter Tryz.func50,Tryz.ntmps50;go_wp2_with (first
    | (go_at_call 91;refine HW.out.mono ?_;rintro e w2 ⟨rfl,hm2⟩)
    | fail)
   go_ret;exact ⟨by rw [HF.out];rfl,hm2⟩
  | some k=>
   rw [hw] at HW HF;simp only [iR] at HW;have hk:decide ((k:Int)<0)=false:=aL (by omega);clear hf;go_enter Tryz.func50,Tryz.ntmps50;go_wp2_with (first
    | (go_at_call 91;refine HW.out.mono ?_;rintro e w2 ⟨rfl,hm2⟩)
    | fail)
   go_ret;exact ⟨by rw [HF.out];rfl,hm2⟩
 ·have hd:decide ((t.writes.length:Int) ≥ 20)=false:=aL (by omega);have HF:Hid (uC t key=false):=by unfold Hid uC;rw [aL hf];rfl
  clear hf HW;go_enter Tryz.func50,Tryz.ntmps50;go_wp2_with fail;go_ret;exact ⟨by rw [HF.out];rfl,Mod.refl _ _⟩
theorem Tryz.zh(t:Addr)(w:World):(ReflectliteValue.unpack (.iface 177 (.pointer (some t)))).run Tryz.prog w
  = .ok (.agg #[.pointer (some ⟨2,177,none⟩),.pointer (some ⟨w.heap.size,0,none⟩),.int .u64 150]) (w.alloc (.cells #[.pointer (some t)] 177)):=by kernel_rfl
theorem Tryz.Mp (a : Addr) (w : World) : (ReflectliteValue.methodAny (ReflectliteValue.valueError "reflectlite.Value.Type" 0) (fun t _ _ _ => ReflectliteType.toType t) #[.agg #[.pointer (some ⟨2, 177, none⟩), .pointer (some a), .int .u64 150]]).run Tryz.prog w
  = .ok (.iface 236 (.agg #[.pointer (some ⟨2,177,none⟩)])) w:=by kernel_rfl
theorem Tryz.vA (h : Value) (w : World) : (Go.method 402 236 (.agg #[h]) "Kind").run Tryz.prog w = .ok (215, h) w := by kernel_rfl
theorem Tryz.NN(w:World):((ReflectliteType.abiMethod fun t=>(fun a:Nat=>Value.int IntKind.u8 (a:Int)) <$> Rtype.kind t) #[.pointer (some ⟨2,177,none⟩)]).run Tryz.prog w=.ok (.int .u8 22) w:=by kernel_rfl
theorem Tryz.NO(w:World):((ReflectliteType.abiMethod fun t=>(fun a:Nat=>Value.int IntKind.u8 (a:Int)) <$> Rtype.kind t) #[.pointer (some ⟨2,90,none⟩)]).run Tryz.prog w=.ok (.int .u8 2) w:=by kernel_rfl
theorem rlm(z:Sem Value)(f:TypeId->Addr->Nat->Nat->Sem Value)(v:Value) :
  ReflectliteValue.method z f #[v]=(do match <-ReflectliteValue.parts v with | none=>z | some (t,a,fl)=>f t a fl (fl % 32)):=rfl
theorem Tryz.zs(a:Addr)(w:World):(ReflectliteValue.parts (.agg #[.pointer (some ⟨2,177,none⟩),.pointer (some a),.int .u64 150])).run Tryz.prog w=.ok (some (177,a,150)) w:=by kernel_rfl
theorem Tryz.Hg(a p:Addr)(W:World)(ha:W.cell? a=some (.pointer (some p))) :
  (ReflectliteValue.method (ReflectliteValue.valueError "reflectlite.Value.IsNil" 0) ReflectliteValue.isNil #[.agg #[.pointer (some ⟨2, 177, none⟩), .pointer (some a), .int .u64 150]]).run Tryz.prog W = .ok (.bool false) W := by
 rw [rlm];simp only [Sem.run_bind,Tryz.zs,Result.andThen];simp [ReflectliteValue.isNil,loadVar,isAgg,underlying,Tryz.underlying177,ha,Result.andThen]
theorem Tryz.vB (h : Value) (w : World) : (Go.method 402 236 (.agg #[h]) "Elem").run Tryz.prog w = .ok (226, .agg #[h]) w := by kernel_rfl
theorem Tryz.oI (h : Value) (w : World) : (Go.method 402 236 (.agg #[h]) "Implements").run Tryz.prog w = .ok (227, .agg #[h]) w := by kernel_rfl
theorem Tryz.mg (h : Value) (w : World) : (Go.method 402 236 (.agg #[h]) "AssignableTo").run Tryz.prog w = .ok (224, .agg #[h]) w := by kernel_rfl
theorem Tryz.PU(w:World):(ReflectliteType.method ReflectliteType.elem #[.agg #[.pointer (some ⟨2,177,none⟩)]]).run Tryz.prog w=.ok (.iface 236 (.agg #[.pointer (some ⟨2,90,none⟩)])) w:=by kernel_rfl
theorem Tryz.sv (w : World) : (ReflectliteType.relation "Implements" ReflectliteType.implements_ #[.agg #[.pointer (some ⟨2, 90, none⟩)], .iface 236 (.agg #[.pointer (some ⟨2, 40, none⟩)])]).run Tryz.prog w = .ok (.bool true) w := by kernel_rfl
theorem Tryz.Ct(v:Value)(w:World):(ReflectliteType.typeOf #[.iface 90 v]).run Tryz.prog w=.ok (.iface 236 (.agg #[.pointer (some ⟨2,90,none⟩)])) w:=by kernel_rfl
theorem Tryz.te (w : World) : (ReflectliteType.relation "AssignableTo" ReflectliteType.assignableTo #[.agg #[.pointer (some ⟨2, 90, none⟩)], .iface 236 (.agg #[.pointer (some ⟨2, 90, none⟩)])]).run Tryz.prog w = .ok (.bool true) w := by kernel_rfl
theorem Tryz.zi(e:Int)(w:World):(ReflectliteValue.unpack (.iface 90 (.int .i64 e))).run Tryz.prog w
  = .ok (.agg #[.pointer (some ⟨2,90,none⟩),.pointer (some ⟨w.heap.size,0,none⟩),.int .u64 130]) (w.alloc (.cells #[.int .i64 e] 90)):=by kernel_rfl
theorem Tryz.Dt(w:World):(Rtype.elem? 177).run Tryz.prog w=.ok (some 90) w:=by kernel_rfl
theorem Tryz.mkE(p:Addr)(w:World):(ReflectliteValue.mk 90 p ReflectliteValue.flagAddr).run Tryz.prog w=.ok (.agg #[.pointer (some ⟨2,90,none⟩),.pointer (some p),.int .u64 386]) w:=by kernel_rfl
theorem Tryz.JD(a p:Addr)(W:World)(ha:W.cell? a=some (.pointer (some p))) :
  (ReflectliteValue.method (ReflectliteValue.valueError "reflectlite.Value.Elem" 0) ReflectliteValue.elem #[.agg #[.pointer (some ⟨2, 177, none⟩), .pointer (some a), .int .u64 150]]).run Tryz.prog W
   = .ok (.agg #[.pointer (some ⟨2,90,none⟩),.pointer (some p),.int .u64 386]) W:=by
 rw [rlm];simp only [Sem.run_bind,Tryz.zs,Result.andThen];simp [ReflectliteValue.elem,loadVar,isAgg,underlying,Tryz.underlying177,ha,Result.andThen,Tryz.Dt,Tryz.mkE]
theorem rls(v x:Value):ReflectliteValue.set #[v,x]=(do
  let (some (dst,a,fl),some (src,b,_)):=(<-ReflectliteValue.parts v,<-ReflectliteValue.parts x)
   | unsupported (.noEntry "extern/(internal/reflectlite.Value).Set.zeroValue")
  if fl / ReflectliteValue.flagAddr % 2 == 0 then unsupported (.noEntry "extern/(internal/reflectlite.Value).Set.unaddressable")
  let val <-loadVar src b
  if <-Rtype.directlyAssignable dst src then storeVar dst a val
  else if <-Rtype.implements dst src then
   if (<-Rtype.kind src) == 20 then
    match val with
    | .nilIface => unsupported (.noEntry "extern/reflectlite: a nil value of one interface type handed on as a value of another")
    | _=>storeVar dst a val
   else storeVar dst a (.iface src val)
  else panicString ("reflectlite.Set: value of type " ++ (← Rtype.spelt src) ++ " is not assignable to type " ++ (← Rtype.spelt dst))
  pure (.tuple #[])):=rfl
theorem Tryz.Cz(a:Addr)(w:World):(ReflectliteValue.parts (.agg #[.pointer (some ⟨2,90,none⟩),.pointer (some a),.int .u64 386])).run Tryz.prog w=.ok (some (90,a,386)) w:=by kernel_rfl
theorem Tryz.Gt(a:Addr)(w:World):(ReflectliteValue.parts (.agg #[.pointer (some ⟨2,90,none⟩),.pointer (some a),.int .u64 130])).run Tryz.prog w=.ok (some (90,a,130)) w:=by kernel_rfl
theorem Tryz.Du(w:World):(Rtype.directlyAssignable 90 90).run Tryz.prog w=.ok true w:=by kernel_rfl
theorem Tryz.WL(ta b:Addr)(e:Int)(old:Value)(W:World)(hb:W.cell? b=some (.int .i64 e))(ht:W.cell? ta=some old)(hf:W.frozen? ta=false) :
  (ReflectliteValue.set #[.agg #[.pointer (some ⟨2,90,none⟩),.pointer (some ta),.int .u64 386],.agg #[.pointer (some ⟨2,90,none⟩),.pointer (some b),.int .u64 130]]).run Tryz.prog W
   = .ok (.tuple #[]) (W.setCell ta (.int .i64 e)):=by
 rw [rls];simp only [Sem.run_bind,Tryz.Cz,Tryz.Gt,Result.andThen];simp [ReflectliteValue.flagAddr,loadVar,isAgg,underlying,Tryz.underlying90,hb,Result.andThen,Tryz.Du,storeVar,Value.cells,storeCells,Addr.add];rw [run_store Tryz.prog W ta _ _ (by rfl)];simp [ht,hf]
end Go.Proofs.YtmaiggbnceejiaaGreatDoor
