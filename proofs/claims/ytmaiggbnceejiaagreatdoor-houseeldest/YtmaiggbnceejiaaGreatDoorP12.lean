import Derived.Test.YtmaiggbnceejiaaGreatDoorP11
import Derived.Test.YtmaiggbnceejiaaGreatDoorP07
import Derived.Lib.SliceRun
set_option linter.unusedVariables false
set_option maxRecDepth 100000
set_option maxHeartbeats 16000000
namespace Go.Proofs.YtmaiggbnceejiaaGreatDoor
open Go.RowKit Go.Lib Go.Maps
theorem kC.congr{w:World}{B N:Nat}{q:iL}{s s':fv}{no:ByteArray->Prop}(h:kC w B N q s no)(he:∀ k,fj k->s k=s' k):kC w B N q s' no:=by
 refine ⟨h.blk,h.bt,?_,h.hdr,fun k i hk hno=>by rw [<-he k hk];exact h.rows k i hk hno,h.apart,fun k hk=>by rw [<-he k hk];exact h.ok k hk,fun k hk=>by rw [<-he k hk];exact h.few k hk⟩;have hm:=h.map
 cases hq:q.m with
 | none=>rw [hq] at hm;exact fun k hk=>by rw [<-he k hk];exact hm k hk
 | some g=>
  rw [hq] at hm;obtain ⟨h0,D,h1,h2⟩:=hm;exact ⟨h0,D,h1,fun k hk=>by rw [<-he k hk];exact h2 k hk⟩
def sQ(s:fv)(t:Int)(P:List ByteArray):fv:=fun k=>if Jd P k then gI s t k else s k
theorem yIq(s:fv)(t:Int):sQ s t []=s:=by funext k;simp [sQ,Jd]
theorem yGp{s:fv}{t:Int}{P:List ByteArray}{k:ByteArray}(h:k∉P):sQ s t P k=s k:=by unfold sQ;rw [aE (fun e=>h (LL.1 e))]
theorem yIp{s:fv}{t:Int}{P:List ByteArray}{k:ByteArray}(hk:k∉P)(hat:vF (s k) t=true):jI (sQ s t P) k (lr (s k) t)=sQ s t (P++[k]):=by
 funext y;unfold jI sQ;by_cases e:y=k
 ·subst e;rw [aJ rfl,aJ (LL.2 (by simp))];unfold gI;rw [aJ hat]
 ·rw [aE e];have:Jd (P++[k]) y=Jd P y:=by
   rw [cN,LL,LL,aL,bK];exact ⟨fun h=>h.resolve_right e,.inl⟩
  rw [this]
theorem yTz{k:eh}(h:k.bare)(t:Int):vF k t=false:=by
 obtain ⟨h1,h2⟩:=h;unfold vF iM;rw [h1,h2];simp
theorem yLy{s:fv}{t:Int}{ks:List ByteArray}(h:Ie s (fun k=>vF k t) ks)(k:ByteArray)(hk:fj k):sQ s t ks k=gI s t k:=by
 unfold sQ;split
 ·rfl
 ·rename_i e;have hn:k∉ks:=fun h2=>e (LL.2 h2);unfold gI;have:¬ vF (s k) t=true:=fun ha=>hn ((h.2 k).2 ⟨hk,fun hb=>(by rw [yTz hb] at ha;cases ha),ha⟩);rw [aE this]
theorem UN:∀ (q held kept:List dg),(iw held kept q).1.length+(iw held kept q).2.1.length<=held.length+kept.length+q.length
 | [],held,kept=>by simp [iw]
 | c :: q,held,kept=>by
  unfold iw;split
  ·have:=UN q (jM held c) kept;have:=LX held c;simp only [aW];omega
  ·have:=UN q held (kept++[c]);simp only [aW,aD,an] at *;omega
theorem yTg(k:eh)(t:Int):(lr k t).held.length+(lr k t).waits.length<=k.held.length+k.waits.length:=by
 have:=UN (kR k.waits t) (kR k.held t) [];have:=Lg k.held t;have:=Lg k.waits t;simp only [lr,an] at *;omega
structure Ae where
 tx:Int
 key:ByteArray
 mode:Int
def LJ(g:Ae):List Value:=[.int .i64 g.tx,.string g.key,.int .i64 g.mode]
def Am:List Ae->List Value
 | []=>[]
 | o :: os=>LJ o++Am os
theorem zRy:∀ a b,Am (a++b)=Am a++Am b
 | [],b=>by simp [Am]
 | p :: a,b=>by simp [Am,zRy a b]
def mn(w:World)(B:Nat)(v:Value)(l:List Ae):Prop:=w.ownsRow B 202 3 v l.length (Am l)
theorem mn.mod{G:Nat->Prop}{w w':World}{B:Nat}{v:Value}{os:List Ae}(h:mn w B v os)(hm:Mod G w w')(hG:∀ k,v.ownBlock=some k->¬ G k):mn w' B v os:=gD h hm (fun k _ _ e=>hG k e)
theorem Tryz.GL:(Tryz.prog.info? 202).map (fun i=>(i.zero,i.size,i.bytes))=some (some (.agg #[.int .i64 0,.string ByteArray.empty,.int .i64 0]),3,32):=by kernel_rfl
def ly(k:ByteArray)(c:dg):Ae:=⟨c.tx,k,c.mode⟩
def oJ(s:fv)(t:Int)(ks:List ByteArray):List Ae:=ks.flatMap fun k=>(iq (s k) t).map (ly k)
theorem yCj(s:fv)(t:Int)(ks:List ByteArray)(k:ByteArray):oJ s t (ks++[k])=oJ s t ks++(iq (s k) t).map (ly k):=by simp [oJ]
theorem yMx{w w6:World}{B N:Nat}{q:iL}{s:fv}{name:ByteArray}{v:Bool->Value}{k':eh}(h:oX w B N q s)(hn:fj name)(hr:∀ i,fI w6 B (v i) (k'.list i))(hne:∀ x,(v true).ownBlock=some x->(v false).ownBlock≠some x)
  (hm:Mod (fun x=>(∃ i,(q.hd name i).ownBlock=some x)\/w.heap.size<=x) w w6) (hat:∀ i x,(v i).ownBlock=some x->(∃ j,(q.hd name j).ownBlock=some x)\/w.heap.size<=x) :
  Ah w6 B q name v k'/\kC w6 B N q s (·=name):=by
 have hlt:∀ k i x,fj k->(q.hd k i).ownBlock=some x->x<w.heap.size:=fun k i x hk hx=>(h.old hk id hx).2.1;refine ⟨⟨hr,hne,fun k i j x hk hkn h1 h2=>?_⟩,(h.less _).turn hm (fun e=>?_) (fun x hx e=>?_) (fun k i x hk hkn hx e=>?_)⟩
 ·rcases hat j x h2 with ⟨l,e2⟩ | e2
  ·exact hkn (h.apart k name i l x hk hn h1 e2).1
  ·have:=hlt k i x hk h1;omega
 ·rcases e with ⟨i,e⟩ | e
  ·exact (h.lH hn id e).1 rfl
  ·have:=h.blk.lt;omega
 ·rcases e with ⟨i,e⟩ | e
  ·exact (h.lH hn id e).2 hx
  ·have:=(h.lt (.inl hx)).2;omega
 ·rcases e with ⟨l,e⟩ | e
  ·exact hkn (h.apart k name i l x hk hn hx e).1
  ·have:=hlt k i x hk hx;omega
structure xZ(w w1 wr:World)(B N:Nat)(q q':iL)(s:fv)(t:Int)(ks:List ByteArray)(i:Nat)(gv:Value):Prop where
 tb:oX wr B N q' (sQ s t (ks.take i))
 b:q'.b=q.b
 pre:q'.pre=q.pre
 post:q'.post=q.post
 ty:q'.t=q.t
 n:q'.n<=q.n
 gr:mn wr w1.heap.size gv (oJ s t (ks.take i))
 md:Mod (fun x=>x=q.b\/q.own x) w1 wr
 own:∀ x,q'.own x->q.own x\/w1.heap.size<=x
structure PB(w w':World)(B N:Nat)(q q':iL)(s:fv)(t:Int)(gv:Value)(ks:List ByteArray):Prop where
 names:Ie s (fun k=>vF k t) ks
 tb:oX w' B N q' (gI s t)
 b:q'.b=q.b
 pre:q'.pre=q.pre
 post:q'.post=q.post
 ty:q'.t=q.t
 n:q'.n<=q.n
 gr:mn w' w.heap.size gv (oJ s t ks)
 md:Mod (fun x=>x=q.b\/q.own x) w w'
 own:∀ x,q'.own x->q.own x\/w.heap.size<=x
theorem Qb{w:World}{B:Nat}{gv:Value}{l:List Ae}(h:mn w B gv l){x:Nat}(hx:gv.ownBlock=some x):∃ cur,w.heap[x]?=some (.cells cur 202 (0,0)):=(mM h hx).2.2
theorem yCk{w:World}{B B':Nat}{gv v:Value}{l:List Ae}{m:List dg}(h:mn w B gv l)(hr:fI w B' v m){x:Nat}(hx:gv.ownBlock=some x):v.ownBlock≠some x:=fun e=>by
 obtain ⟨c1,h1⟩:=Qb h hx;obtain ⟨_,_,c2,h2⟩:=mM hr e;rw [h1] at h2;simp at h2
theorem yCl{w:World}{B:Nat}{gv:Value}{l:List Ae}{b:Nat}{cs:List Value}{ty:TypeId}(h:mn w B gv l)(hb:dh w b cs ty)(hty:ty≠202){x:Nat}(hx:gv.ownBlock=some x):x≠b:=fun e=>by
 obtain ⟨c1,h1⟩:=Qb h hx;unfold dh at hb;rw [<-e,h1] at hb;simp at hb;exact hty hb.2.symm
theorem yNh{w:World}{B B' N:Nat}{gv:Value}{l:List Ae}{q:iL}{s:fv}(h:mn w B gv l)(hT:oX w B' N q s)(hty:q.t≠202){x:Nat}(hx:gv.ownBlock=some x):x≠q.b/\¬ q.own x:=by
 refine ⟨yCl h hT.blk hty hx,fun e=>?_⟩;rcases e with e | ⟨k,i,hk,e⟩
 ·obtain ⟨c1,h1⟩:=Qb h hx;obtain ⟨_,D,⟨es,clock,hb,_⟩,_⟩:=hT.map.get e;rw [h1] at hb
  cases hb
 ·exact yCk h (hT.rows k i hk id) hx e
theorem yCi(g:Ae):∀ u∈LJ g,u.oneCell'=true:=by
 intro u hu;simp [LJ] at hu;rcases hu with rfl | rfl | rfl <;> rfl
theorem zZi{α β:Type}{l:List α}{k:Nat}{c:α}(f:α->β)(h:l[k]?=some c):(l.take (k+1)).map f=(l.take k).map f++[f c]:=by rw [qP h,ao];rfl
structure ySp(wr w6:World)(B N:Nat)(q':iL)(s':fv)(name:ByteArray)(kb:Nat)(v:Bool->Value)(gv:Value)(K:eh)(t:Int):Prop where
 blk:dh w6 kb [v true,v false] 168
 kept:Ah w6 B q' name v (lr K t)
 tx:kC w6 B N q' s' (·=name)
 got:fI w6 B gv (iq K t)
 vo:∀ i x,(v i).ownBlock=some x->q'.own x\/wr.heap.size<=x
 md:Mod (fun x=>(∃ i,(q'.hd name i).ownBlock=some x)\/wr.heap.size<=x) wr w6
theorem yPs{wr w3 w4 w6:World}{B N:Nat}{q':iL}{s':fv}{name:ByteArray}{t:Int}{hv' iJ rf CF gv:Value}(h:oX wr B N q' s')(hn:fj name)(dz:Mod dZ wr w3)(hb3:wr.heap.size<w3.heap.size)
  (hk4:Hz w4 B wr.heap.size hv' iJ (kR (s' name).held t) (kR (s' name).waits t)) (NJ:hv'.ownBlock=(q'.hd name true).ownBlock) (XF:iJ.ownBlock=(q'.hd name false).ownBlock) (gM:Mod (fun x=>x=wr.heap.size\/(q'.hd name true).ownBlock=some x\/(q'.hd name false).ownBlock=some x) w3 w4)
  (hP:yS w4 w6 B wr.heap.size hv' (kR (s' name).held t) (kR (s' name).waits t) (kR (s' name).waits t).length gv rf CF (iw (kR (s' name).held t) [] (kR (s' name).waits t)).1 (iw (kR (s' name).held t) [] (kR (s' name).waits t)).2.1 (iw (kR (s' name).held t) [] (kR (s' name).waits t)).2.2) :
  ySp wr w6 B N q' s' name wr.heap.size (fun i=>if i then rf else CF) gv (s' name) t:=by
 have hz3:=dz.size;have Mh:=gM.size;have iK:Mod (fun x=>(∃ i,(q'.hd name i).ownBlock=some x)\/wr.heap.size<=x) wr w6:=by
  refine ((dz.mono (fun _ _ e=>e.elim)).trans (gM.mono (fun x _ e=>?_))).trans (hP.md.mono (fun x _ e=>?_))
  ·rcases e with e | e | e
   ·exact .inr (by omega)
   ·exact .inl ⟨true,e⟩
   ·exact .inl ⟨false,e⟩
  ·rcases e with e | e
   ·exact .inr (by omega)
   ·exact .inl ⟨true,by rw [<-NJ];exact e⟩
 have hat:∀ (i:Bool) x,((fun i:Bool=>if i then rf else CF) i).ownBlock=some x->(∃ j,(q'.hd name j).ownBlock=some x)\/wr.heap.size<=x:=fun i x hx=>by
  cases i with
  | true=>
   simp only [if_true] at hx;rcases hP.ha with e | e
   ·exact .inl ⟨true,by rw [<-NJ,<-e];exact hx⟩
   ·exact .inr (by have:=e x hx;omega)
  | false=>
   simp only [cA,if_false] at hx;exact .inr (by have:=hP.wa x hx;omega)
 obtain ⟨xV,BR⟩:=yMx (v:=fun i:Bool=>if i then rf else CF) (k':=lr (s' name) t) h hn (fun i=>by cases i;exact hP.ky.w;exact hP.ky.h) (fun x h1 h2=>by simp only [if_true,cA,if_false] at h1 h2;exact hP.ky.ne x h1 h2) iK hat;refine ⟨hP.ky.blk,xV,BR,hP.got,fun i x hx=>?_,iK⟩;rcases hat i x hx with ⟨j,e⟩ | e
 ·exact .inl (.inr ⟨name,j,hn,e⟩)
 ·exact .inr e
theorem yNi(k:eh)(t:Int):(iq k t).length<=k.waits.length:=by
 have:=(TI (kR k.waits t) (kR k.held t) []).2.2;have:=Lg k.waits t;unfold iq;omega
theorem zXg(s:fv)(t:Int)(M:Nat):∀ (ks:List ByteArray),(∀ k∈ks,(s k).waits.length<=M)->(oJ s t ks).length<=ks.length*M
 | [],_=>by simp [oJ]
 | k :: ks,h=>by
  have ih:=zXg s t M ks (fun x hx=>h x (ay _ hx));have h1:=yNi (s k) t;have h2:=h k (by simp);have e:oJ s t (k :: ks)=(iq (s k) t).map (ly k)++oJ s t ks:=by simp [oJ]
  rw [e,aD,af,aW,Nat.add_mul];omega
theorem xZ.next{w w1 wr w6 wq w7:World}{B N:Nat}{q q' q2:iL}{s:fv}{t:Int}{ks:List ByteArray}{i:Nat}{Yo gq got:Value}{name:ByteArray}{v:Bool->Value}(h:xZ w w1 wr B N q q' s t ks i Yo)(hty:q.t≠202)(hname:ks[i]?=some name)(hns:Ie s (fun k=>vF k t) ks)(hqo:∀ x,q.own x->x<w1.heap.size)(Ga:q.b<w1.heap.size)
  (hR:ySp wr w6 B N q' (sQ s t (ks.take i)) name wr.heap.size v got (s name) t) (Jh:Mod (fun x=>Yo.ownBlock=some x) w6 wq) (hg:mn wq w1.heap.size gq (oJ s t (ks.take i)++(iq (s name) t).map (ly name)))
  (hK:FU wq w7 B N q' q2 (sQ s t (ks.take i)) name v (lr (s name) t)) (Js:kC wq B N q' (sQ s t (ks.take i)) (·=name)):xZ w w1 w7 B N q q2 s t ks (i+1) gq:=by
 have hin:=(hns.2 name).1 (aC hname);have hz1:=h.md.size;have RO:=hR.md.size;have NM:name∉ks.take i:=fun hm=>by
  obtain ⟨j,hj⟩:=aN hm;rw [cX] at hj;split at hj
  ·rename_i hlt;obtain ⟨a1,a2⟩:=aB.1 hj;obtain ⟨b1,b2⟩:=aB.1 hname;have:=bL.1 hns.1 j i a1 b1 hlt;rw [a2,b2] at this;exact zWz _ this
  ·cases hj
 have BG:sQ s t (ks.take i) name=s name:=yGp NM;have hg0:∀ x,Yo.ownBlock=some x->w1.heap.size<=x:=fun x hx=>(mM h.gr hx).1;refine ⟨?_,hK.b.trans h.b,hK.pre.trans h.pre,hK.post.trans h.post,hK.t.trans h.ty,aM (hK.n0 (by rw [BG];exact hin.2.1)) h.n,?_,?_,fun x hx=>?_⟩
 ·have e:=yIp (s:=s) (t:=t) NM hin.2.2;rw [<-qP hname] at e;rw [<-e];exact hK.tb
 ·rw [qP hname,yCj];refine hg.mod hK.md (fun x hx e=>?_);rcases e with e | e
  ·exact yCl hg Js.blk (by rw [h.ty];exact hty) hx e
  ·obtain ⟨c1,h1⟩:=Qb hg hx;obtain ⟨_,D,⟨es,clock,hb,_⟩,_⟩:=Js.map.get e;rw [h1] at hb
   cases hb
 ·have hlt:∀ x,x<w1.heap.size->q'.own x->q.own x:=fun x hx hq=>by
   rcases h.own x hq with e | e
   ·exact e
   ·omega
  have a1:Mod (fun x=>x=q.b\/q.own x) w1 w6:=h.md.trans' hR.md (fun x hx e=>by
   rcases e with ⟨j,e⟩ | e
   ·exact .inr (hlt x hx (.inr ⟨name,j,hin.1,e⟩))
   ·omega)
  have a2:Mod (fun x=>x=q.b\/q.own x) w1 wq:=a1.trans' Jh (fun x hx e=>by have:=hg0 x e;omega);exact a2.trans' hK.md (fun x hx e=>by
   rcases e with e | e
   ·exact .inl (by rw [e,h.b])
   ·exact .inr (hlt x hx (.inl e)))
 ·rcases hK.own x hx with e | e | ⟨j,e⟩
  ·exact h.own x e
  ·have:=Jh.size;exact .inr (by omega)
  ·rcases hR.vo j x e with e2 | e2
   ·exact h.own x e2
   ·exact .inr (by omega)
theorem yEi(B N:Nat)(q:iL)(s:fv)(t:Int)(w:World)(h:oX w B N q s)(hty:q.t≠202)(hN:N<=390)(Ca:q.n<=10000)(hB:B<=w.heap.size) :
  Calls Tryz.prog 108 #[.pointer (some ⟨q.b,q.pre.length,none⟩),.int .i64 t] w fun e w'=>∃ gv q' ks,e=.returned gv/\PB w w' B N q q' s t gv ks:=by
 obtain ⟨i0,hi,hz0,hz1,hz2⟩:=info_parts Tryz.GL;have HOF:=dU (Fv B N q s t w h (by omega) (by omega));have HT:=dU h;have hqbw:=h.blk.lt;clear h;go_enter Tryz.func108,Tryz.ntmps108;go_wp2_with fail;refine HOF.out.mono ?_;rintro e w1 ⟨nv,ks,rfl,hks,hns,oq,hkl,di⟩;obtain ⟨na,jh,XG,hnc1,XM⟩:=gG.slice hks;subst XG;unfold maxLen at XM;have Si:=dU hks;have Ku:=dU hns;have fg:=dU di;have xF:=di.size;have PX:Hid (∀ x,(Value.slice na ks.length jh).ownBlock=some x->¬ (x=q.b\/q.own x)):=fun x hx e=>by
  have h1:=oq x hx;rcases e with e | e
  ·omega
  ·have:=(HT.out.lt e).2;omega
 have HQO:Hid (∀ x,q.own x->x<w1.heap.size):=fun x hx=>aG (HT.out.lt hx).2 xF;have Pj:Hid (xZ w w1 w1 B N q q s t ks 0 (.slice none 0 0)):=
  ⟨by rw [bg,yIq];exact HT.out.mod di id (fun _ _=>id),rfl,rfl,rfl,rfl,aF _,by rw [bg];exact World.ownsRow_nil _ _ _ _,Mod.refl _ _,fun x hx=>.inl hx⟩
 have HGL:Hid (∀ i,i<=ks.length->(oJ s t (ks.take i)).length<=10000*390):=fun i hik=>by
  have:=zXg s t 390 (ks.take i) (fun k hk=>by
   have:=HT.out.few k ((Ku.out.2 k).1 (cU hk)).1;omega)
  have h2:(ks.take i).length<=10000:=by rw [aZ];omega
  exact aM this (dQ _ h2)
 have Ww:q.b<w1.heap.size:=by omega
 clear hks hns oq di HOF;go_wp2_with fail;go_loopw [5,15] (fun g0 i0 wr=>∃ (i:Nat) (q':iL),i<=ks.length/\i0=.int .i64 i/\xZ w w1 wr B N q q' s t ks i g0) (fun _ i0 _=>ks.length - (intOf i0).toNat)
 case atStart=>exact ⟨0,q,aV _,rfl,Pj.out⟩
 case round=>
  obtain ⟨i,q',hik,rfl,hI⟩:=hrel;clear Pj;obtain ⟨wo,hwo⟩:∃ x,x=wr:=⟨_,rfl⟩;subst hwo;by_cases hlt:i<ks.length
  ·obtain ⟨name,hname⟩:∃ k,ks[i]?=some k:=⟨_,aA hlt⟩;have hin:=(Ku.out.2 name).1 (aC hname);have hok:=hin.1;have BG:sQ s t (ks.take i) name=s name:=by
    refine yGp (fun hm=>?_);obtain ⟨j,hj⟩:=aN hm;rw [cX] at hj;split at hj
    ·rename_i XV;obtain ⟨a1,a2⟩:=aB.1 hj;obtain ⟨b1,b2⟩:=aB.1 hname;have:=bL.1 Ku.out.1 j i a1 b1 XV;rw [a2,b2] at this;exact zWz _ this
    ·cases hj
   obtain ⟨nb,noff,rfl,_,n0⟩:=(Si.out.mod hI.md PX.out).at hname;have c0:=hI.tb.cell;rw [hI.b,hI.pre] at c0;have z0:=hI.tb.blk.lt;rw [hI.b] at z0;have lJ:=hI.tb.look hok;obtain ⟨ha,hcap,mh⟩:=fJ (hI.tb.rows name true hok id);obtain ⟨wa,fz,iT⟩:=fJ (hI.tb.rows name false hok id);obtain ⟨ga,lz,Cn⟩:=fJ hI.gr;subst Cn;have fW:=hI.tb.few name hok;rw [BG] at mh iT fW;have e1:(s name).list true=(s name).held:=rfl;have e2:(s name).list false=(s name).waits:=rfl;rw [e1] at mh;rw [e2] at iT;obtain ⟨w3,hw3⟩:∃ x,x=wo.alloc (.cells #[q'.hd name true,q'.hd name false] 168):=⟨_,rfl⟩;have dz:Mod dZ wo w3:=by rw [hw3];exact (Mod.refl _ wo).alloc _
   have hb3:dh w3 wo.heap.size [q'.hd name true,q'.hd name false] 168:=by rw [hw3];exact dh.new wo [q'.hd name true,q'.hd name false] 168
   have hky:Hz w3 B wo.heap.size (q'.hd name true) (q'.hd name false) (s name).held (s name).waits:=by
    have hr1:=(hI.tb.rows name true hok id).mod dz (fun _ _=>id);have hr2:=(hI.tb.rows name false hok id).mod dz (fun _ _=>id);rw [BG] at hr1 hr2;exact ⟨hb3,hr1,hr2,fun x h1 h2=>by have:=(hI.tb.apart name name true false x hok hok h1 h2).2;cases this⟩
   have Bd:=dU (yMs B wo.heap.size _ _ _ _ t w3 hky (by omega) (by omega));have AA:=hI.tb.ok name hok;rw [BG] at AA;have HI:=dU hI;have PY:=dU hname;have Ks:=dU BG;have jt:=dU dz;have LA:=dU AA;have HBZ:Hid (wo.heap.size<w3.heap.size):=hb3.lt;have RO:=hI.md.size;have kO:(i:Int)<(ks.length:Int):=by omega
   have ow:(0:Int)<=(i:Int):=by omega
   rw [mh,iT] at lJ hw3;have Ab:=dU mh;have AJ:=dU iT;clear hI hname BG dz hb3 hky mh iT e1 e2 AA hin;go_upto_region 6 with fail;rw [<-hw3];clear hw3 lJ c0 n0;go_wp2_with fail;refine Bd.out.mono ?_;rintro e w4 ⟨rfl,hv4,wv4,hk4,NJ,XF,gM⟩;have hle1:=Lg (s name).held t;have Nb:=Lg (s name).waits t;have PT:=dU (yPz B wo.heap.size hv4 wv4 _ _ w4 hk4 (Aw LA.out.held t) (by omega) (by omega) (by have:=gM.size;have:=jt.out.size;omega));have AZ:=dU hk4;have Sd:=dU NJ;have HO2:=dU XF;have sK:=dU gM;clear hk4 NJ XF gM Bd;go_upto_region 7 with fail;go_wp2_with (first
    | (go_at_call 143;refine PT.out.mono ?_;rintro e w6 ⟨got,rf,CF,rfl,hP⟩;obtain ⟨gta,OY,hgt⟩:=fJ (show fI w6 B got (iq (s name) t) from hP.got);subst hgt)
    | go_in)
   have hR:=yPs HI.out.tb hok jt.out HBZ.out (by rw [Ks.out];exact AZ.out) Sd.out HO2.out sK.out (by rw [Ks.out];exact hP);rw [Ks.out] at hR;obtain ⟨v,hv⟩:∃ v:Bool->Value,v=fun i=>if i then rf else CF:=⟨_,rfl⟩
   rw [<-hv] at hR;have yF:v true=rf:=by rw [hv];rfl
   have zE:v false=CF:=by rw [hv];rfl
   have HR:=dU hR;have hgl:=yNi (s name) t;have hGL:=HGL.out i hik;have zm:=fun x hx=>yNh HI.out.gr HI.out.tb (by rw [HI.out.ty];exact hty) (x:=x) hx;have Zp:=dU zm;have Zr:Hid (∀ x,(Value.slice ga (oJ s t (ks.take i)).length lz).ownBlock=some x->w1.heap.size<=x/\x<wo.heap.size):=fun x hx=>⟨(mM HI.out.gr hx).1,(mM HI.out.gr hx).2.1⟩;have Jl:mn w6 w1.heap.size (.slice ga (oJ s t (ks.take i)).length lz) (oJ s t (ks.take i)):=HI.out.gr.mod hR.md (fun x hx e=>by
    rcases e with ⟨j,e⟩ | e
    ·exact (zm x hx).2 (.inr ⟨name,j,hok,e⟩)
    ·have:=(Zr.out x hx).2;omega)
   have Zs:=dU Jl;have HVT:=dU yF;have HVF:=dU zE;have HNG:Hid (∀ x,(Value.slice ga (oJ s t (ks.take i)).length lz).ownBlock=some x->(Value.slice gta (iq (s name) t).length OY).ownBlock≠some x):=fun x hx=>yCk Jl hR.got hx;have hzr6:=hR.md.size;have HLH:Hid (qy rf/\qy CF):=⟨LZ (by rw [<-yF];exact hR.kept.row true),LZ (by rw [<-zE];exact hR.kept.row false)⟩;generalize hGN:(oJ s t (ks.take i)).length=gn at hGL Zr Zs HNG Zp HI;have Zq:=dU hGN;clear hP hR zm Jl hv yF zE PT AZ Sd HO2 sK hGN;go_loopw [5,29] (fun g1 j0 wq=>∃ j:Nat,j<=(iq (s name) t).length/\j0=.int .i64 j/\mn wq w1.heap.size g1 (oJ s t (ks.take i)++((iq (s name) t).take j).map (ly name))/\(g1.ownBlock=(Value.slice ga gn lz).ownBlock\/∀ x,g1.ownBlock=some x->w6.heap.size<=x)/\Mod (fun x=>(Value.slice ga gn lz).ownBlock=some x) w6 wq) (fun _ j0 _=>(iq (s name) t).length - (intOf j0).toNat)
   case atStart=>exact ⟨0,aV _,rfl,by simpa using Zs.out,.inl rfl,Mod.refl _ _⟩
   case round=>
    obtain ⟨j,hjl,rfl,hrow,hloc,Jh⟩:=hrel;have HLOC:=dU hloc;clear hloc;obtain ⟨Yp,AE,hg1⟩:=fJ hrow;subst hg1;have fc:=dU hrow;have Kx:=dU Jh;have hz6q:=Jh.size;clear hrow Jh Zs;by_cases rj:j<(iq (s name) t).length
    ·obtain ⟨c,hc⟩:∃ c,(iq (s name) t)[j]?=some c:=⟨_,aA rj⟩;obtain ⟨tb,toff,rfl,_,q0,q1⟩:=((HR.out.got.mod Kx.out (fun x hx e=>HNG.out x e hx)).oN (aF _)).at hc;obtain ⟨w8,RR⟩:∃ x,x=wr.alloc (.cells #[.int .i64 c.tx,.int .i64 c.mode] 170):=⟨_,rfl⟩;have oQ:Mod dZ wr w8:=by rw [RR];exact (Mod.refl _ wr).alloc _
     have OB:dh w8 wr.heap.size (fZ c) 170:=by rw [RR];exact dh.new wr (fZ c) 170
     have y0:=OB.cell 0 rfl;have y1:=OB.cell 1 rfl;have hz8:=OB.lt;have AN:=dU (fc.out.mod oQ (fun _ _=>id));have hmt:=zZi (ly name) hc;have HMT:=dU hmt;have mQ:(oJ s t (ks.take i)++((iq (s name) t).take j).map (ly name)).length=gn+j:=by rw [aD,Zq.out,af,aZ];omega
     rw [mQ] at AN ⊢;have PQ:Hid (w8.ownsRow w1.heap.size 202 3 (.slice Yp (gn+j) AE) (gn+j) (Am (oJ s t (ks.take i)++((iq (s name) t).take j).map (ly name)))):=by
      have h9:=AN.out;unfold mn at h9;rw [mQ] at h9;exact h9
     have oH:=dU mQ;have iF:gn+j+1<=maxLen:=by unfold maxLen;omega
     have iG:(gn+j+1)*32<=140737488355328:=by omega
     have hbz:w1.heap.size<=w8.heap.size:=by have:=oQ.size;omega
     have Pa:=dU oQ;have Ni:(j:Int)<((iq (s name) t).length:Int):=by omega
     have RZ:(0:Int)<=(j:Int):=by omega
     clear hc oQ OB hmt mQ AN;go_upto_region 10 with fail;rw [<-RR];clear RR q0 q1;go_wp2_with (first
      | (at_builtin;refine wpList_append_own_at _ rfl (.tmp 33) (.tmp 40) 163 rfl w1.heap.size 202 i0 _ 3 32 Tryz.underlying163 hi hz0 hz1 hz2 rfl (by omega) _ _ _ rfl (PQ.out.alloc _) ⟨w8.heap.size,0,none⟩ 1 1 (LJ (ly name c)) rfl rfl (World.news_of_block (heap_alloc_new w8 _)) (yCi _) iF iG (by simp;omega) ?_)
      | fail)
     intro v9 w9 mP lN _ uu;have BJ:Mod (fun x=>(Value.slice Yp (gn+j) AE).ownBlock=some x) w8 w9:=((Mod.refl _ w8).alloc _).grown lN (fun x hx _=>hx);have NU:Mod (fun x=>(Value.slice ga gn lz).ownBlock=some x) w6 w9:=(Kx.out.trans (Pa.out.mono (fun _ _ e=>e.elim))).trans' BJ (fun x hx e=>by
      have e':(Value.slice Yp (oJ s t (ks.take i)++((iq (s name) t).take j).map (ly name)).length AE).ownBlock=some x:=by rw [oH.out];exact e
      rcases HLOC.out with h9 | h9
      ·rw [<-h9];exact e'
      ·have:=h9 x e';omega)
     have sk:v9.ownBlock=(Value.slice ga gn lz).ownBlock\/∀ x,v9.ownBlock=some x->w6.heap.size<=x:=by
      rcases uu with e | e
      ·rcases HLOC.out with h9 | h9
       ·left;rw [e,<-h9,oH.out]
       ·right;intro x hx;exact h9 x (by rw [oH.out,<-e];exact hx)
      ·right;intro x hx;rw [e] at hx;simp at hx;have:=Pa.out.size;omega
     obtain ⟨a9,Oc,WZ⟩:=fJ mP;subst WZ;have Zi:=dU NU;have HL9:=dU sk;have HW9:Hid (mn w9 w1.heap.size (.slice a9 (gn+j+1) Oc) (oJ s t (ks.take i)++((iq (s name) t).take (j+1)).map (ly name))):=by
      rw [HMT.out,Hid];unfold mn;rw [<-aU,zRy (oJ s t (ks.take i)++((iq (s name) t).take j).map (ly name)),aD,oH.out];have:Am [ly name c]=LJ (ly name c):=by simp [Am]
      rw [this,List.map_take];exact mP
     clear mP lN uu BJ NU sk;go_wp2_with fail;go_roundw
     case rel=>exact ⟨j+1,by omega,by go_num,HW9.out,HL9.out,Zi.out⟩
     case measure=>simp [intOf];omega
    ·obtain rfl:j=(iq (s name) t).length:=by omega
     have hrow2:=fc.out;rw [bI] at hrow2;have hgx:∀ x,(Value.slice ga gn lz).ownBlock=some x->x<wo.heap.size/\¬ q'.own x/\x≠q'.b:=fun x hx=>⟨(Zr.out x hx).2,(Zp.out x hx).2,(Zp.out x hx).1⟩;have hvx:∀ (l:Bool) x,(v l).ownBlock=some x->¬ (Value.slice ga gn lz).ownBlock=some x:=fun l x hx e=>by
      rcases HR.out.vo l x hx with e2 | e2
      ·exact (hgx x e).2.1 e2
      ·have:=(hgx x e).1;omega
     have Js:kC wr B N q' (sQ s t (ks.take i)) (·=name):=HR.out.tx.turn Kx.out (fun e=>(hgx _ e).2.2 rfl) (fun x hx e=>(hgx x e).2.1 (.inl hx)) (fun k l x hk _ hx e=>(hgx x e).2.1 (.inr ⟨k,l,hk,hx⟩));have Rp:Ah wr B q' name v (lr (s name) t):=⟨fun l=>(HR.out.kept.row l).mod Kx.out (fun x hx e=>hvx l x hx e),HR.out.kept.ne,HR.out.kept.out⟩;have Gw:dh wr wo.heap.size [v true,v false] 168:=HR.out.blk.mod Kx.out (fun e=>by have:=(hgx _ e).1;omega);have zZ:=Sz B N N q' (sQ s t (ks.take i)) name v (lr (s name) t) wr Js hok Rp (Fu LA.out t) (aM (yTg (s name) t) fW) (aF _) (by have:=HI.out.n;omega) (by omega);rw [HI.out.b,HI.out.pre,HVT.out,HVF.out] at zZ;have yN:=dU zZ;have HTQ:=dU Js;have IB:=dU hrow2;have k0:=Gw.cell 0 rfl;have k1:=Gw.cell 1 rfl;rw [HVT.out] at k0;rw [HVF.out] at k1;have hzk:=Gw.lt;have Yc:=HLH.out;have oH:Hid ((oJ s t (ks.take i)++((iq (s name) t).take (iq (s name) t).length).map (ly name)).length=gn+(iq (s name) t).length):=by rw [Hid,aD,Zq.out,af,aZ];omega
     rw [oH.out];have xf:Hid ((oJ s t (ks.take i)++(iq (s name) t).map (ly name)).length=gn+(iq (s name) t).length):=by rw [Hid,aD,Zq.out,af]
     obtain ⟨h6a,h6n,h6c,hh6⟩:∃ a n c,rf=.slice a n c:=by rcases Yc.1 with e | ⟨a,n,c,e⟩ <;> exact ⟨_,_,_,e⟩
     obtain ⟨w6a,w6n,w6c,sd⟩:∃ a n c,CF=.slice a n c:=by rcases Yc.2 with e | ⟨a,n,c,e⟩ <;> exact ⟨_,_,_,e⟩
     rw [hh6] at k0 yN;rw [sd] at k1 yN;clear hrow2 hgx hvx Js Rp Gw zZ Yc hh6 sd;go_upto_region 12 with fail;go_wp2_with (first
      | (go_at_call 113;refine yN.out.mono ?_;rintro e w7 ⟨rfl,q2,hQ⟩;have ir:=dU (xZ.next HI.out hty PY.out Ku.out HQO.out Ww HR.out Kx.out IB.out hQ HTQ.out);clear hQ)
      | go_in)
     go_roundw
     case rel=>exact ⟨i+1,q2,by omega,by go_num,by have h9:=ir.out;first | (rw [xf.out] at h9;exact h9) | (rw [oH.out] at h9;exact h9)⟩
     case measure=>simp [intOf];omega
  ·obtain rfl:i=ks.length:=by omega
   obtain ⟨ga,lz,Cn⟩:=fJ hI.gr;subst Cn;have ir:Hid (PB w wo B N q q' s t (.slice ga (oJ s t (ks.take ks.length)).length lz) ks):=by
    have BE:=hI.tb;have hgr:=hI.gr;rw [bI] at BE hgr ⊢;exact ⟨Ku.out,BE.congr (fun k hk=>yLy Ku.out k hk),hI.b,hI.pre,hI.post,hI.ty,hI.n,uP hgr xF,(fg.out.mono (fun _ _ e=>e.elim)).trans hI.md,fun x hx=>(hI.own x hx).imp id (fun e=>aM xF e)⟩
   clear hI;go_wp2_with fail;go_ret;exact ⟨_,q',ks,rfl,ir.out⟩

inductive Tag where
 | no | main | net | tab | dead | fm | gR
 | line (b:Nat) | node (b:Nat) | tx (b:Nat)
 deriving DecidableEq
structure dX where
 lv:Value
 dr:Nat
 wv:Value
 mr:Option Nat
 tv:Value
 gH:List Nat
 qz:Nat->Value
 fU:Nat->List Nat
 kI:Nat->Value
 kJ:Nat->Value
 ja:List Nat
 jN:Nat->Value
 jf:Nat->Value
 q:iL
 own:Nat->Tag
def dX.lo(y:dX)(n:Nat):Lo:=⟨n,fun k=>∃ t∈y.ja,(y.jf t).ownBlock=some k⟩
def dX.ext(y:dX):Ext:=⟨y.lv,.map (some y.dr),.map y.q.m,y.tv⟩
def iz(b:Nat):Value:=.pointer (some ⟨b,0,none⟩)
def JC(y:dX)(lost:Int):List Value:=[y.lv,.map (some y.dr),y.wv,.int .i64 lost,.map y.mr,.map y.q.m,y.tv]
def wN(w:World)(n:Nat)(y:dX)(b:Nat)(s:eH):Prop:=fh w (y.lo n) b (y.kI b) (y.kJ b) s
structure yQ(w:World)(n:Nat)(y:dX)(b:Nat)(l:ik):Prop where
 blk:dh w b [y.qz b,.int .i64 l.heard] 120
 row:w.ownsRow n 91 1 (y.qz b) (y.fU b).length ((y.fU b).map iz)
 len:(y.fU b).length=l.nodes.length
 node:∀ (j c:Nat) s,(y.fU b)[j]?=some c->l.nodes[j]?=some s->wN w n y c s
structure tJ(w:World)(n:Nat)(y:dX)(b:Nat)(t:jO):Prop where
 blk:dh w b [.int .i64 t.state,y.jN b,y.jf b,.int .i64 t.time] 86
 ats:w.ownsRow n 3 1 (y.jN b) t.ats.length (t.ats.map (Value.int .i64))
 wr:w.ownsRow n 68 3 (y.jf b) t.writes.length (t.writes.flatMap nw)
structure tQ(w:World)(L:Lo)(wv:Value)(mr:Option Nat)(s:ey):Prop where
 row:eX w L wv s.way
 dn:pV w L mr s.down
 few:s.way.length<=200
 lo:0<=s.lost/\s.lost<=4611686018427387904
structure tK(w:World)(n N:Nat)(q:iL)(s:fv):Prop where
 map:qH w n q.m q.n q.hd s
 hdr:∀ k i,fj k->qy (q.hd k i)
 rows:∀ k i,fj k->fI w n (q.hd k i) ((s k).list i)
 apart:∀ k k' i i' x,fj k->fj k'->(q.hd k i).ownBlock=some x->(q.hd k' i').ownBlock=some x->k=k'/\i=i'
 ok:∀ k,fj k->mW (s k)
 few:∀ k,fj k->(s k).held.length+(s k).waits.length<=N
structure xc(w:World)(n g:Nat)(y:dX):Prop where
 main:y.own g=.main
 fm:∀ k,y.lv.ownBlock=some k->y.own k=.fm
 gR:∀ k,y.tv.ownBlock=some k->y.own k=.gR
 net:∀ k,y.wv.ownBlock=some k\/y.mr=some k->y.own k=.net
 dead:y.own y.dr=.dead
 tab:∀ k,y.q.own k->y.own k=.tab
 line:∀ b∈y.gH,y.own b=.line b/\∀ k,(y.qz b).ownBlock=some k->y.own k=.line b
 node:∀ b∈y.gH,∀ c∈y.fU b,∀ k,gx c (y.kI c) (y.kJ c) k->y.own k=.node c
 tx:∀ b∈y.ja,y.own b=.tx b/\∀ k,(y.jN b).ownBlock=some k\/(y.jf b).ownBlock=some k->y.own k=.tx b
 lt:∀ k,y.own k≠.no->n<=k/\k<w.heap.size
 BC:y.gH.Nodup
 Dy:y.ja.Nodup
 yE:(y.gH.flatMap y.fU).Nodup
structure du(w:World)(n c g:Nat)(y:dX)(s:dW):Prop where
 blk:dh w g (JC y s.net.lost) 84
 net:tQ w (y.lo n) y.wv y.mr s.net
 dead:pV w n (some y.dr) s.dead
 tab:tK w n 120 y.q s.keys
 qn:y.q.b=g/\y.q.t=84/\y.q.n<=c
 fm:w.ownsRow n 102 1 y.lv y.gH.length (y.gH.map iz)
 iN:y.gH.length=s.lines.length
 line:∀ (k b:Nat) l,y.gH[k]?=some b->s.lines[k]?=some l->yQ w n y b l
 gR:w.ownsRow n 87 1 y.tv y.ja.length (y.ja.map iz)
 kM:y.ja.length=s.dV.length
 tx:∀ (i b:Nat) t,y.ja[i]?=some b->s.dV[i]?=some t->tJ w n y b t
 own:xc w n g y
theorem Uy{w:World}{n g:Nat}{y:dX}(h:xc w n g y):∀ k,(y.lo n).x k->k<w.heap.size:=fun k ⟨t,ht,hk⟩=>(h.lt k (by rw [(h.tx t ht).2 k (.inr hk)];simp)).2
theorem yQ.mod{G:Nat->Prop}{w w':World}{n:Nat}{y:dX}{b:Nat}{l:ik}(h:yQ w n y b l)(hm:Mod G w w')(hq:Qm w (y.lo n) G)(hb:¬ G b)(hr:∀ k,(y.qz b).ownBlock=some k->¬ G k)(hn:∀ c∈y.fU b,∀ k,gx c (y.kI c) (y.kJ c) k->¬ G k):yQ w' n y b l:=
 ⟨h.blk.mod hm hb,gD h.row hm (fun k _ _ e=>hr k e),h.len,fun j c s hc hs=>(h.node j c s hc hs).mod hm hq (fun k hk=>hn c (aC hc) k hk)⟩
theorem tJ.mod{G:Nat->Prop}{w w':World}{n:Nat}{y:dX}{b:Nat}{t:jO}(h:tJ w n y b t)(hm:Mod G w w')(hb:¬ G b)(hr:∀ k,(y.jN b).ownBlock=some k\/(y.jf b).ownBlock=some k->¬ G k):tJ w' n y b t:=
 ⟨h.blk.mod hm hb,gD h.ats hm (fun k _ _ e=>hr k (.inl e)),gD h.wr hm (fun k _ _ e=>hr k (.inr e))⟩
theorem tQ.mod{G:Nat->Prop}{w w':World}{L:Lo}{wv:Value}{mr:Option Nat}{s:ey}(h:tQ w L wv mr s)(hm:Mod G w w')(hq:Qm w L G)(hG:∀ k,wv.ownBlock=some k\/mr=some k->¬ G k):tQ w' L wv mr s:=
 ⟨h.row.mod hm hq (fun k hk=>hG k (.inl hk)),h.dn.mod hm (fun k hk=>hG k (.inr hk)),h.few,h.lo⟩
theorem tK.toP{w:World}{n N:Nat}{q:iL}{s:fv}(h:tK w n N q s)(hb:dh w q.b (q.pre++.map q.m :: q.post) q.t)(ht:q.t≠170):oX w n N q s:=
 ⟨hb,ht,h.map,h.hdr,fun k i hk _=>h.rows k i hk,h.apart,h.ok,h.few⟩
theorem tK.mod{G:Nat->Prop}{w w':World}{n N:Nat}{q:iL}{s:fv}(h:tK w n N q s)(hm:Mod G w w')(hG:∀ x,q.own x->¬ G x):tK w' n N q s:=by
 refine ⟨?_,h.hdr,fun k i hk=>gD (h.rows k i hk) hm (fun x _ _ e=>hG x (.inr ⟨k,i,hk,e⟩)),h.apart,h.ok,h.few⟩;have hmm:=h.map;unfold qH at hmm ⊢
 cases hq:q.m with
 | none=>rw [hq] at hmm;exact hmm
 | some x=>
  rw [hq] at hmm;obtain ⟨h1,D,⟨es,clock,h2,h3⟩,h4⟩:=hmm;refine ⟨h1,D,⟨es,clock,?_,h3⟩,h4⟩;exact (hm.block x (aK.1 h2).1 (hG x (.inl hq))).trans h2
theorem du.quiet{w w':World}{n c g:Nat}{y:dX}{s:dW}(h:du w n c g y s)(hm:Mod dZ w w'):du w' n c g y s:=
 ⟨h.blk.mod hm id,h.net.mod hm (Qm.none _ _) (fun _ _=>id),h.dead.mod hm (fun _ _=>id),h.tab.mod hm (fun _ _=>id),h.qn,gD h.fm hm (fun _ _ _ _=>id),h.iN,fun k b l hb hl=>(h.line k b l hb hl).mod hm (Qm.none _ _) id (fun _ _=>id) (fun _ _ _ _=>id),
  gD h.gR hm (fun _ _ _ _=>id),h.kM,fun i b t hb ht=>(h.tx i b t hb ht).mod hm id (fun _ _=>id),{ h.own with lt:=fun k hk=>⟨(h.own.lt k hk).1,aG (h.own.lt k hk).2 hm.size⟩ }⟩
structure iD(w:World)(y:dX)(w':World)(y':dX):Prop where
 md:Mod (fun k=>y.own k≠.no) w w'
 old:∀ k,k<w.heap.size->y'.own k=y.own k
theorem iD.refl(w:World)(y:dX):iD w y w y:=⟨Mod.refl _ _,fun _ _=>rfl⟩
theorem iD.quiet{w w':World}{y:dX}(hm:Mod dZ w w'):iD w y w' y:=⟨hm.mono (fun _ _ e=>e.elim),fun _ _=>rfl⟩
theorem iD.trans{w w1 w2:World}{y y1 y2:dX}(h:iD w y w1 y1)(k:iD w1 y1 w2 y2):iD w y w2 y2:=
 ⟨h.md.trans' k.md (fun i hi e=>by rw [<-h.old i hi];exact e),fun i hi=>by rw [k.old i (aG hi h.md.size),h.old i hi]⟩
theorem iD.size{w w':World}{y y':dX}(h:iD w y w' y'):w.heap.size<=w'.heap.size:=h.md.size
theorem iD.blk{w w':World}{y y':dX}(h:iD w y w' y'){b:Nat}{cs:List Value}{t:TypeId}(hb:dh w b cs t)(hn:y.own b=.no):dh w' b cs t:=hb.mod h.md (fun e=>e hn)
structure mF{α:Type}(f:Nat)(gP:Array Value)(arg:α->Value)(es:List α)(p:α->Bool)(C:World->Prop):Prop where
 enter:∀ (args:Array Value) (w:World),(callFunc f args).run Tryz.prog w=.ok (.enter f args) w
 keep:∀ w w',C w->Mod dZ w w'->C w'
 ask:∀ d∈es,∀ wr,C wr->Calls Tryz.prog f (#[arg d]++gP) wr fun e w'=>e=.returned (.bool (p d))/\Mod dZ wr w'
def iO(o:Option Nat):Int:=match o with | none=>-1 | some k=>k
theorem Ii{α:Type}(p:α->Bool):∀ (ms:List α) (k:Nat),(∀ i m,i<k->ms[i]?=some m->p m=false)->∀ m,ms[k]?=some m->p m=true->ms.findIdx? p=some k
 | [],_,_,m,h,_=>by simp at h
 | m' :: ms,0,_,m,h,hs=>by simp at h;subst h;simp [List.findIdx?_cons,hs]
 | m' :: ms,k+1,hf,m,h,hs=>by
  have h0:=hf 0 m' (by omega) rfl;have:=Ii p ms k (fun i m hi hm=>hf (i+1) m (by omega) (by simpa using hm)) m (by simpa using h) hs;simp [List.findIdx?_cons,h0,this]
theorem Iu{α:Type}(p:α->Bool):∀ (ms:List α),(∀ (i:Nat) m,ms[i]?=some m->p m=false)->ms.findIdx? p=none
 | [],_=>rfl
 | m :: ms,h=>by
  have h0:=h 0 m rfl;simp [List.findIdx?_cons,h0,Iu p ms (fun i m hm=>h (i+1) m (by simpa using hm))]
theorem Sx{α:Type}(p:α->Bool):∀ (ms:List α),decide (iO (ms.findIdx? p) ≥ 0)=ms.any p
 | []=>rfl
 | m :: ms=>by
  have ih:=Sx p ms;by_cases h:p m=true
  ·simp [List.findIdx?_cons,h,iO]
  ·have h':p m=false:=by simpa using h
   rw [List.any_cons,h',Bool.false_or,<-ih,bq,aE h]
   cases ms.findIdx? p with
   | none=>rfl
   | some k=>simp [iO];omega
def RH(d:Nat)(l:List Value):Prop:=l=[.pointer (some ⟨d,0,none⟩)]
theorem zUf(f L:Nat)(gP:Array Value)(p:Nat->Bool)(v:Value)(ms:List Nat)(w:World)(C:World->Prop)(hv:gG w L 1 RH v ms)(hA:mF f gP (fun d=>.pointer (some ⟨d,0,none⟩)) ms p C)(hC:C w)(hf:ms.length<=1000000) :
  Calls Tryz.prog 96 #[v,.func (.func f) #[] gP] w fun e w'=>e=.returned (.int .i64 (iO (ms.findIdx? p)))/\Mod dZ w w':=by
 have HV:=dU hv;obtain ⟨a,cap,rfl,hc1,hc2⟩:=gG.slice hv;have HA:=dU hA;have DW:=dU hC;have hen:=hA.enter;clear hv hA hC;go_enter Tryz.func96,Tryz.ntmps96;go_wp2_with fail;go_loopw [8] (fun i wr=>∃ k:Nat,k<=ms.length/\i=.int .i64 k/\(∀ i m,i<k->ms[i]?=some m->p m=false)/\Mod dZ w wr) (fun i _=>ms.length - (intOf i).toNat)
 case atStart=>exact ⟨0,aV _,rfl,fun i m h=>by omega,Mod.refl _ _⟩
 case round=>
  obtain ⟨k,hk,rfl,hno,hM⟩:=hrel;have kv:=dU hno;have HM:=dU hM;clear hno hM;by_cases hlt:k<ms.length
  ·obtain ⟨m,hm⟩:∃ m,ms[k]?=some m:=⟨_,aA hlt⟩;obtain ⟨b,off,l,rfl,_,hl,_,hcl⟩:=gG.at HV.out hm;unfold RH at hl;subst hl;have p0:=HM.out.cell (hcl 0 _ rfl) id;simp only [bC,cT] at p0;have HC:=dU (HA.out.ask m (aC hm) wr (HA.out.keep _ _ DW.out HM.out));have kh:=dU hm;have kO:(k:Int)<(ms.length:Int):=by omega
   have ow:(0:Int)<=(k:Int):=by omega
   clear hm hcl;go_wp2_with fail;refine HC.out.mono ?_;rintro e w5 ⟨rfl,eu⟩;have pA:=dU (HM.out.trans eu);clear HC eu
   cases hs:p m with
   | true=>
    have HF:=dU (Ii p ms k kv.out m kh.out hs);go_wp2_with fail;go_ret;exact ⟨by rw [HF.out];rfl,pA.out⟩
   | false=>
    go_wp2_with fail;go_roundw
    case rel=>
     refine ⟨k+1,by omega,by go_num,fun i m' hi' hm'=>?_,pA.out⟩;by_cases hik:i<k
     ·exact kv.out i m' hik hm'
     ·obtain rfl:i=k:=by omega
      rw [kh.out] at hm';cases hm';exact hs
    case measure=>simp [intOf];omega
  ·have HF:=dU (Iu p ms (fun i m hm=>kv.out i m (by have:=(aB.1 hm).1;omega) hm));go_wp2_with fail;go_ret;exact ⟨by rw [HF.out];rfl,HM.out⟩
def Bi(d:fR)(l:List Value):Prop:=l=[.string d.key,.string d.val,.bool d.gone]
theorem zUe(f L:Nat)(gP:Array Value)(p:fR->Bool)(v:Value)(ms:List fR)(w:World)(C:World->Prop)(hv:gG w L 3 Bi v ms)(hA:mF f gP (fun d=>.agg #[.string d.key,.string d.val,.bool d.gone]) ms p C)(hC:C w)(hf:ms.length<=1000000) :
  Calls Tryz.prog 132 #[v,.func (.func f) #[] gP] w fun e w'=>e=.returned (.int .i64 (iO (ms.findIdx? p)))/\Mod dZ w w':=by
 have HV:=dU hv;obtain ⟨a,cap,rfl,hc1,hc2⟩:=gG.slice hv;have HA:=dU hA;have DW:=dU hC;have hen:=hA.enter;clear hv hA hC;go_enter Tryz.func132,Tryz.ntmps132;go_wp2_with fail;go_loopw [8] (fun i wr=>∃ k:Nat,k<=ms.length/\i=.int .i64 k/\(∀ i m,i<k->ms[i]?=some m->p m=false)/\Mod dZ w wr) (fun i _=>ms.length - (intOf i).toNat)
 case atStart=>exact ⟨0,aV _,rfl,fun i m h=>by omega,Mod.refl _ _⟩
 case round=>
  obtain ⟨k,hk,rfl,hno,hM⟩:=hrel;have kv:=dU hno;have HM:=dU hM;clear hno hM;by_cases hlt:k<ms.length
  ·obtain ⟨m,hm⟩:∃ m,ms[k]?=some m:=⟨_,aA hlt⟩;obtain ⟨b,off,l,rfl,_,hl,_,hcl⟩:=gG.at HV.out hm;unfold Bi at hl;subst hl;have p0:=HM.out.cell (hcl 0 _ rfl) id;simp only [bC] at p0;have p1:=HM.out.cell (hcl 1 _ rfl) id;have p2:=HM.out.cell (hcl 2 _ rfl) id;have HC:=dU (HA.out.ask m (aC hm) wr (HA.out.keep _ _ DW.out HM.out));have kh:=dU hm;have kO:(k:Int)<(ms.length:Int):=by omega
   have ow:(0:Int)<=(k:Int):=by omega
   clear hm hcl;go_wp2_with fail;refine HC.out.mono ?_;rintro e w5 ⟨rfl,eu⟩;have pA:=dU (HM.out.trans eu);clear HC eu
   cases hs:p m with
   | true=>
    have HF:=dU (Ii p ms k kv.out m kh.out hs);go_wp2_with fail;go_ret;exact ⟨by rw [HF.out];rfl,pA.out⟩
   | false=>
    go_wp2_with fail;go_roundw
    case rel=>
     refine ⟨k+1,by omega,by go_num,fun i m' hi' hm'=>?_,pA.out⟩;by_cases hik:i<k
     ·exact kv.out i m' hik hm'
     ·obtain rfl:i=k:=by omega
      rw [kh.out] at hm';cases hm';exact hs
    case measure=>simp [intOf];omega
  ·have HF:=dU (Iu p ms (fun i m hm=>kv.out i m (by have:=(aB.1 hm).1;omega) hm));go_wp2_with fail;go_ret;exact ⟨by rw [HF.out];rfl,HM.out⟩
def Dq(d:(dt × Value))(l:List Value):Prop:=l=[.int .i64 d.1.kind,.int .i64 d.1.tx,.int .i64 d.1.time,d.2]
theorem yFa(f L:Nat)(gP:Array Value)(p:(dt × Value)->Bool)(v:Value)(ms:List (dt × Value))(w:World)(C:World->Prop)(hv:gG w L 4 Dq v ms)(hA:mF f gP (fun d=>.agg #[.int .i64 d.1.kind,.int .i64 d.1.tx,.int .i64 d.1.time,d.2]) ms p C)(hC:C w)(hf:ms.length<=1000000) :
  Calls Tryz.prog 126 #[v,.func (.func f) #[] gP] w fun e w'=>e=.returned (.int .i64 (iO (ms.findIdx? p)))/\Mod dZ w w':=by
 have HV:=dU hv;obtain ⟨a,cap,rfl,hc1,hc2⟩:=gG.slice hv;have HA:=dU hA;have DW:=dU hC;have hen:=hA.enter;clear hv hA hC;go_enter Tryz.func126,Tryz.ntmps126;go_wp2_with fail;go_loopw [8] (fun i wr=>∃ k:Nat,k<=ms.length/\i=.int .i64 k/\(∀ i m,i<k->ms[i]?=some m->p m=false)/\Mod dZ w wr) (fun i _=>ms.length - (intOf i).toNat)
 case atStart=>exact ⟨0,aV _,rfl,fun i m h=>by omega,Mod.refl _ _⟩
 case round=>
  obtain ⟨k,hk,rfl,hno,hM⟩:=hrel;have kv:=dU hno;have HM:=dU hM;clear hno hM;by_cases hlt:k<ms.length
  ·obtain ⟨m,hm⟩:∃ m,ms[k]?=some m:=⟨_,aA hlt⟩;obtain ⟨b,off,l,rfl,_,hl,_,hcl⟩:=gG.at HV.out hm;unfold Dq at hl;subst hl;have p0:=HM.out.cell (hcl 0 _ rfl) id;simp only [bC] at p0;have p1:=HM.out.cell (hcl 1 _ rfl) id;have p2:=HM.out.cell (hcl 2 _ rfl) id;have p3:=HM.out.cell (hcl 3 _ rfl) id;have HC:=dU (HA.out.ask m (aC hm) wr (HA.out.keep _ _ DW.out HM.out));have kh:=dU hm;have kO:(k:Int)<(ms.length:Int):=by omega
   have ow:(0:Int)<=(k:Int):=by omega
   clear hm hcl;go_wp2_with fail;refine HC.out.mono ?_;rintro e w5 ⟨rfl,eu⟩;have pA:=dU (HM.out.trans eu);clear HC eu
   cases hs:p m with
   | true=>
    have HF:=dU (Ii p ms k kv.out m kh.out hs);go_wp2_with fail;go_ret;exact ⟨by rw [HF.out];rfl,pA.out⟩
   | false=>
    go_wp2_with fail;go_roundw
    case rel=>
     refine ⟨k+1,by omega,by go_num,fun i m' hi' hm'=>?_,pA.out⟩;by_cases hik:i<k
     ·exact kv.out i m' hik hm'
     ·obtain rfl:i=k:=by omega
      rw [kh.out] at hm';cases hm';exact hs
    case measure=>simp [intOf];omega
  ·have HF:=dU (Iu p ms (fun i m hm=>kv.out i m (by have:=(aB.1 hm).1;omega) hm));go_wp2_with fail;go_ret;exact ⟨by rw [HF.out];rfl,HM.out⟩
def Uz(d:ByteArray)(l:List Value):Prop:=l=[.string d]
theorem yEy(f L:Nat)(gP:Array Value)(p:ByteArray->Bool)(v:Value)(ms:List ByteArray)(w:World)(C:World->Prop)(hv:gG w L 1 Uz v ms)(hA:mF f gP (fun d=>.string d) ms p C)(hC:C w)(hf:ms.length<=1000000) :
  Calls Tryz.prog 119 #[v,.func (.func f) #[] gP] w fun e w'=>e=.returned (.int .i64 (iO (ms.findIdx? p)))/\Mod dZ w w':=by
 have HV:=dU hv;obtain ⟨a,cap,rfl,hc1,hc2⟩:=gG.slice hv;have HA:=dU hA;have DW:=dU hC;have hen:=hA.enter;clear hv hA hC;go_enter Tryz.func119,Tryz.ntmps119;go_wp2_with fail;go_loopw [8] (fun i wr=>∃ k:Nat,k<=ms.length/\i=.int .i64 k/\(∀ i m,i<k->ms[i]?=some m->p m=false)/\Mod dZ w wr) (fun i _=>ms.length - (intOf i).toNat)
 case atStart=>exact ⟨0,aV _,rfl,fun i m h=>by omega,Mod.refl _ _⟩
 case round=>
  obtain ⟨k,hk,rfl,hno,hM⟩:=hrel;have kv:=dU hno;have HM:=dU hM;clear hno hM;by_cases hlt:k<ms.length
  ·obtain ⟨m,hm⟩:∃ m,ms[k]?=some m:=⟨_,aA hlt⟩;obtain ⟨b,off,l,rfl,_,hl,_,hcl⟩:=gG.at HV.out hm;unfold Uz at hl;subst hl;have p0:=HM.out.cell (hcl 0 _ rfl) id;simp only [bC,cT] at p0;have HC:=dU (HA.out.ask m (aC hm) wr (HA.out.keep _ _ DW.out HM.out));have kh:=dU hm;have kO:(k:Int)<(ms.length:Int):=by omega
   have ow:(0:Int)<=(k:Int):=by omega
   clear hm hcl;go_wp2_with fail;refine HC.out.mono ?_;rintro e w5 ⟨rfl,eu⟩;have pA:=dU (HM.out.trans eu);clear HC eu
   cases hs:p m with
   | true=>
    have HF:=dU (Ii p ms k kv.out m kh.out hs);go_wp2_with fail;go_ret;exact ⟨by rw [HF.out];rfl,pA.out⟩
   | false=>
    go_wp2_with fail;go_roundw
    case rel=>
     refine ⟨k+1,by omega,by go_num,fun i m' hi' hm'=>?_,pA.out⟩;by_cases hik:i<k
     ·exact kv.out i m' hik hm'
     ·obtain rfl:i=k:=by omega
      rw [kh.out] at hm';cases hm';exact hs
    case measure=>simp [intOf];omega
  ·have HF:=dU (Iu p ms (fun i m hm=>kv.out i m (by have:=(aB.1 hm).1;omega) hm));go_wp2_with fail;go_ret;exact ⟨by rw [HF.out];rfl,HM.out⟩
def JU(d:Int)(l:List Value):Prop:=l=[.int .i64 d]
theorem yEz(f L:Nat)(gP:Array Value)(p:Int->Bool)(v:Value)(ms:List Int)(w:World)(C:World->Prop)(hv:gG w L 1 JU v ms)(hA:mF f gP (fun d=>.int .i64 d) ms p C)(hC:C w)(hf:ms.length<=1000000) :
  Calls Tryz.prog 134 #[v,.func (.func f) #[] gP] w fun e w'=>e=.returned (.int .i64 (iO (ms.findIdx? p)))/\Mod dZ w w':=by
 have HV:=dU hv;obtain ⟨a,cap,rfl,hc1,hc2⟩:=gG.slice hv;have HA:=dU hA;have DW:=dU hC;have hen:=hA.enter;clear hv hA hC;go_enter Tryz.func134,Tryz.ntmps134;go_wp2_with fail;go_loopw [8] (fun i wr=>∃ k:Nat,k<=ms.length/\i=.int .i64 k/\(∀ i m,i<k->ms[i]?=some m->p m=false)/\Mod dZ w wr) (fun i _=>ms.length - (intOf i).toNat)
 case atStart=>exact ⟨0,aV _,rfl,fun i m h=>by omega,Mod.refl _ _⟩
 case round=>
  obtain ⟨k,hk,rfl,hno,hM⟩:=hrel;have kv:=dU hno;have HM:=dU hM;clear hno hM;by_cases hlt:k<ms.length
  ·obtain ⟨m,hm⟩:∃ m,ms[k]?=some m:=⟨_,aA hlt⟩;obtain ⟨b,off,l,rfl,_,hl,_,hcl⟩:=gG.at HV.out hm;unfold JU at hl;subst hl;have p0:=HM.out.cell (hcl 0 _ rfl) id;simp only [bC,cT] at p0;have HC:=dU (HA.out.ask m (aC hm) wr (HA.out.keep _ _ DW.out HM.out));have kh:=dU hm;have kO:(k:Int)<(ms.length:Int):=by omega
   have ow:(0:Int)<=(k:Int):=by omega
   clear hm hcl;go_wp2_with fail;refine HC.out.mono ?_;rintro e w5 ⟨rfl,eu⟩;have pA:=dU (HM.out.trans eu);clear HC eu
   cases hs:p m with
   | true=>
    have HF:=dU (Ii p ms k kv.out m kh.out hs);go_wp2_with fail;go_ret;exact ⟨by rw [HF.out];rfl,pA.out⟩
   | false=>
    go_wp2_with fail;go_roundw
    case rel=>
     refine ⟨k+1,by omega,by go_num,fun i m' hi' hm'=>?_,pA.out⟩;by_cases hik:i<k
     ·exact kv.out i m' hik hm'
     ·obtain rfl:i=k:=by omega
      rw [kh.out] at hm';cases hm';exact hs
    case measure=>simp [intOf];omega
  ·have HF:=dU (Iu p ms (fun i m hm=>kv.out i m (by have:=(aB.1 hm).1;omega) hm));go_wp2_with fail;go_ret;exact ⟨by rw [HF.out];rfl,HM.out⟩
theorem zVu(f L:Nat)(gP:Array Value)(p:ByteArray->Bool)(v:Value)(ms:List ByteArray)(w:World)(C:World->Prop)(hv:gG w L 1 Uz v ms)(hA:mF f gP (fun d=>.string d) ms p C)(hC:C w)(hf:ms.length<=1000000) :
  Calls Tryz.prog 73 #[v,.func (.func f) #[] gP] w fun e w'=>e=.returned (.bool (ms.any p))/\Mod dZ w w':=by
 have HI:=dU (yEy f L gP p v ms w C hv hA hC hf);obtain ⟨a,cap,rfl,hc1,hc2⟩:=gG.slice hv;have FC:=dU (Sx p ms);clear hv hA;go_enter Tryz.func73,Tryz.ntmps73;go_wp2_with fail;refine HI.out.mono ?_;rintro e w1 ⟨rfl,hm⟩;go_wp2_with fail;go_ret;exact ⟨by rw [<-FC.out];rfl,hm⟩
theorem zVv(f L:Nat)(gP:Array Value)(p:Int->Bool)(v:Value)(ms:List Int)(w:World)(C:World->Prop)(hv:gG w L 1 JU v ms)(hA:mF f gP (fun d=>.int .i64 d) ms p C)(hC:C w)(hf:ms.length<=1000000) :
  Calls Tryz.prog 93 #[v,.func (.func f) #[] gP] w fun e w'=>e=.returned (.bool (ms.any p))/\Mod dZ w w':=by
 have HI:=dU (yEz f L gP p v ms w C hv hA hC hf);obtain ⟨a,cap,rfl,hc1,hc2⟩:=gG.slice hv;have FC:=dU (Sx p ms);clear hv hA;go_enter Tryz.func93,Tryz.ntmps93;go_wp2_with fail;refine HI.out.mono ?_;rintro e w1 ⟨rfl,hm⟩;go_wp2_with fail;go_ret;exact ⟨by rw [<-FC.out];rfl,hm⟩
end Go.Proofs.YtmaiggbnceejiaaGreatDoor
