import Derived.Test.YtmaiggbnceejiaaGreatDoorP32
set_option linter.unusedVariables false
set_option maxRecDepth 100000
set_option maxHeartbeats 16000000
namespace Go.Proofs.YtmaiggbnceejiaaGreatDoor
theorem yCs{α β:Type}(f:α->List β)(p:β->Bool):∀ (l:List α),(l.flatMap f).find? p=(l.find? fun a=>((f a).find? p).isSome).bind fun a=>(f a).find? p
 | []=>rfl
 | a :: l=>by
  rw [bD,List.find?_append,cE,yCs f p l]
  cases h:(f a).find? p with
  | none=>simp
  | some b=>simp [h]
theorem yRl{ws:List fR}(h:(ws.map (·.key)).Nodup)(k:ByteArray):ws.reverse.find? (fun p=>decide (p.key=k))=ws.find? fun p=>decide (p.key=k):=by
 have key:∀ {l:List fR} {p:fR},(l.map (·.key)).Nodup->p∈l->p.key=k->(l.find? fun p=>decide (p.key=k))=some p:=by
  intro l
  induction l with
  | nil=>intro p _ hp;cases hp
  | cons q l ih=>
   intro p hn hp e;rw [cE];simp only [bh,List.nodup_cons] at hn;rcases bA.1 hp with rfl | hp
   ·simp [e]
   ·have:q.key≠k:=fun e2=>hn.1 (by rw [e2,<-e];exact List.mem_map_of_mem hp);simp only [this,decide_false];exact ih hn.2 hp e
 cases hf:ws.find? fun p=>decide (p.key=k) with
 | none=>
  rw [cZ] at hf ⊢;exact fun p hp=>hf p (by simpa using hp)
 | some p=>
  have hp:=dI hf;have e:p.key=k:=by simpa using List.find?_some hf
  exact key (by rw [cz];unfold List.Nodup at h ⊢;rw [List.pairwise_reverse];exact h.imp (fun q=>Ne.symm q)) (by simpa using hp) e
theorem yGh{ws:List fR}(h:(ws.map (·.key)).Nodup)(k:ByteArray):(ws.reverse.find? fun p=>decide (p.key=k)).map oh=lq ws k:=by
 rw [yRl h];rfl
section
variable {E:Nat->Prop} {O:Nat->List gQ} {D:List Nat} {V:mT} {s:dW}
theorem eY.view(h:eY E O D V s)(hS:Safe s){k:ByteArray}(hT:Told s (ee s k)):((pI (dy s (ee s k)).log).find? fun p=>decide (p.key=k)).map oh=(xp O D k).bind fun d=>lC (O d) k:=by
 have hd2:=hS.ll.1;have hK:ee s k<dk s:=Bw hd2 k;have KD:ee s k<s.lines.length:=by have:=hS.dec_lt;omega
 obtain ⟨K,Ei⟩:∃ K,K=ee s k:=⟨_,rfl⟩;rw [<-Ei] at hT hK KD ⊢;have hLog:=hS.log K KD;obtain ⟨log,gk⟩:∃ log,log=(dy s K).log:=⟨_,rfl⟩;rw [<-gk] at hLog ⊢
 -- commits,and what they wrote
 have hcm:∀ c∈log,c.kind=3->1<=c.tx/\c.tx.toNat∈D:=fun c hc h3=>by
  have q:=hLog.all c hc;have q2:=q.jE (by omega);refine ⟨q.lo,(h.dm _).2 ⟨by have:=q.lo;omega,by have:=q.hi;omega,?_⟩⟩;rcases q2 with q2 | q2 | q2
  ·omega
  ·exact q2.2.1
  ·omega
 have hpr:∀ c∈log,c.kind=3->(((log.getD ((kq log 2 c.tx).getD 0) rT).writes).reverse.find? fun p=>decide (p.key=k)).map oh=lC (O c.tx.toNat) k:=fun c hc h3=>by
  obtain ⟨i,hi⟩:=aN hc;obtain ⟨j,p,BL,hj,p1,p2⟩:=hLog.rX (by omega) i c hi h3;have hsome:∃ n,kq log 2 c.tx=some n:=by
   cases hp:kq log 2 c.tx with
   | some n=>exact ⟨n,rfl⟩
   | none=>exact absurd ⟨p1,p2⟩ (Qh.1 hp p (aC hj))
  obtain ⟨n,hn⟩:=hsome;rw [hn,dK];unfold kq at hn;obtain ⟨hnl,zS,Cd⟩:=bu.1 hn;simp only [bN,ar] at zS;have hget:log.getD n rT=log[n]:=by rw [aH,aA hnl];rfl
  rw [hget];have hmem:log[n]∈(dy s K).log:=by rw [<-gk];exact dA hnl
  have hst:(s.tx (log[n]).tx.toNat).state≠4:=by
   rw [zS.2];have:=((h.dm _).1 (hcm c hc h3).2).2.2;omega
  obtain ⟨z1,z2⟩:=h.xE K hK _ hmem zS.1 hst;rw [yGh z1,z2 k Ei.symm,zS.2]
 unfold pI;rw [yCs,Option.map_bind]
 -- the last AH that wrote the key
 have hfun:∀ c∈log.reverse.filter (fun c=>decide (c.kind=3)),((((log.getD ((kq log 2 c.tx).getD 0) rT).writes).reverse.find? fun p=>decide (p.key=k)).isSome)=(lC (O c.tx.toNat) k).isSome:=fun c hc=>by
  rw [al] at hc;rw [<-hpr c (by simpa using hc.1) (by simpa using hc.2),Option.isSome_map]
 cases hf:(log.reverse.filter (fun c=>decide (c.kind=3))).find? (fun c=>(((log.getD ((kq log 2 c.tx).getD 0) rT).writes).reverse.find? fun p=>decide (p.key=k)).isSome) with
 | none=>
  rw [cZ] at hf
  cases hw:xp O D k with
  | none=>rfl
  | some a=>
   exfalso;unfold xp at hw;have ha:a∈D:=by simpa using dI hw
   have Ed:=List.find?_some hw;obtain ⟨o,ho,e1,_⟩:=JE Ed;obtain ⟨a1,a2,a3⟩:=(h.dm a).1 ha;have hat:=h.ats a a1 a2 (by omega) o ho;rw [e1,<-Ei] at hat;have nM:fb s a K 1=some ⟨3,a,(s.tx a).time,[]⟩:=by
    unfold fb;simp only;rw [aE (by omega),aE hat,aE (by omega),aJ a3]
   obtain ⟨c,c1,c2,c3⟩:=hT a a1 a2 1 _ nM;rw [<-gk] at c1;have xQ:c∈log.reverse.filter (fun c=>decide (c.kind=3)):=al.2 ⟨by simpa using c1,by simpa using c2⟩;have:=hf c xQ;rw [hfun c xQ,c3] at this;simp at this;rw [this] at Ed
   cases Ed
 | some c=>
  rw [cy];have Nx:=dI hf;have Rh:=List.find?_some hf;rw [hfun c Nx] at Rh;have hcl:=al.1 Nx;have hc3:c.kind=3:=by simpa using hcl.2
  have YA:c∈log:=by simpa using hcl.1
  show Option.map oh _=_;rw [hpr c YA hc3];obtain ⟨t1,t2⟩:=hcm c YA hc3
  -- it is the last one of the order
  have hlast:xp O D k=some c.tx.toNat:=by
   cases hw:xp O D k with
   | none=>
    unfold xp at hw;rw [cZ] at hw;exact absurd Rh (hw _ (by simpa using t2))
   | some a=>
    have hw0:=hw;unfold xp at hw;have ha:a∈D:=by simpa using dI hw
    have Ed:=List.find?_some hw;congr 1;apply aR;intro hne;obtain ⟨o,ho,e1,_⟩:=JE Ed;obtain ⟨a1,a2,a3⟩:=(h.dm a).1 ha;have hat:=h.ats a a1 a2 (by omega) o ho;rw [e1,<-Ei] at hat;have nM:fb s a K 1=some ⟨3,a,(s.tx a).time,[]⟩:=by
     unfold fb;simp only;rw [aE (by omega),aE hat,aE (by omega),aJ a3]
    obtain ⟨ca,Yz,Yy,ca3⟩:=hT a a1 a2 1 _ nM;rw [<-gk] at Yz;simp only at Yy;obtain ⟨ia,Rb⟩:=aN Yz;obtain ⟨jp,p,hjp,hp,p1,p2⟩:=hLog.rX (by omega) ia ca Rb Yy;have Gc:p.tx.toNat=a:=by rw [p2,ca3];simp
    -- c is ahead of a in D
    have YC:Lz D c.tx.toNat a:=fun _=>by
     obtain ⟨x,hx⟩:=aN t2;obtain ⟨y,hy⟩:=aN ha;rcases cB x y with q | q | q
     ·exact ⟨x,y,q,hx,hy⟩
     ·rw [q,hy] at hx;exact absurd (ax hx) hne
     ·exfalso
      -- a would not be the last
      obtain ⟨l1,l2,hsp,hno⟩:=List.find?_eq_some_iff_append.1 hw |>.2;have hxl:=(aB.1 hx).1;have hr:D=l2.reverse++a :: l1.reverse:=by
       have:=ae List.reverse hsp;simpa using this
      have hmem:c.tx.toNat∈l1:=by
       rw [hr] at hx hy;have hy':y=l2.reverse.length:=by
        have hnd:=h.nd;rw [hr] at hnd;have h0:(l2.reverse++a :: l1.reverse)[l2.reverse.length]?=some a:=by rw [aO (by omega)];simp
        have WS:=(aB.1 hy).1;have hl0:=(aB.1 h0).1;exact (List.getElem_inj hnd).1 ((aB.1 hy).2.trans (aB.1 h0).2.symm)
       rw [aO (by omega)] at hx;have:x - l2.reverse.length≠0:=by omega
       obtain ⟨z,hz⟩:=Nat.exists_eq_succ_of_ne_zero this;rw [hz,cQ] at hx;simpa using aC hx
      have:=hno _ hmem;rw [Rh] at this
      cases this
    obtain ⟨jc,dc,hjc,Jp,dc1,dc2⟩:=h.hd2 K hK jp p (by rw [<-gk];exact hp) p1 (by rw [Gc];omega) o (by rw [Gc];exact ho) (by rw [e1];exact Ei.symm) c.tx.toNat t2 (by rw [e1];exact Rh) (by rw [Gc];exact YC);rw [<-gk] at Jp
    -- but c is behind a in the log
    obtain ⟨l1,l2,hsp,hno⟩:=List.find?_eq_some_iff_append.1 hf |>.2;have Gv:ca∈log.reverse.filter (fun c=>decide (c.kind=3)):=al.2 ⟨by simpa using Yz,by simpa using Yy⟩;have Ny:=hfun ca Gv;have Ec:ca.tx.toNat=a:=by rw [ca3];simp
    rw [Ec,Ed] at Ny;have Nz:ca∈l2:=by
     rw [hsp] at Gv;rcases aL.1 Gv with q | q
     ·have:=hno ca q;rw [Ny] at this
      cases this
     ·rcases bA.1 q with q | q
      ·exfalso;apply hne;rw [<-q,Ec]
      ·exact q
    -- positions in the log
    have hsub:[c,ca].Sublist log.reverse:=by
     refine List.Sublist.trans ?_ (bQ (p:=fun c=>decide (c.kind=3)));rw [hsp];refine List.Sublist.trans ?_ (List.sublist_append_right _ _);exact List.Sublist.cons_cons _ (List.singleton_sublist.2 Nz)
    have Mt:[ca,c].Sublist log:=by simpa using hsub.reverse
    -- c=dc,by one
    have hone:c=dc:=by
     obtain ⟨ic,hic⟩:=aN YA;have hpw:=rR.1 hLog.one;rcases cB ic jc with q | q | q
     ·exact absurd ⟨by omega,by omega⟩ (hpw ic jc _ _ q hic Jp)
     ·rw [q,Jp] at hic;exact (ax hic).symm
     ·exact absurd ⟨by omega,by omega⟩ (hpw jc ic _ _ q Jp hic)
    obtain ⟨r1,r2,hr,Xz,hr2⟩:=List.cons_sublist_iff.1 Mt;have hc2:c∈r2:=List.singleton_sublist.1 hr2;obtain ⟨x,hx⟩:=aN Xz;obtain ⟨y,hy⟩:=aN hc2;have hxl:=(aB.1 hx).1;have hx':log[x]?=some ca:=by rw [hr,aI hxl];exact hx
    have hy':log[r1.length+y]?=some c:=by rw [hr,aO (by omega),Nat.add_sub_cancel_left];exact hy
    have Mp:∀ (i j:Nat) (d:dt),log[i]?=some d->log[j]?=some d->i=j:=fun i j d hi hj=>by
     have hpw:=rR.1 hLog.one;rcases cB i j with q | q | q
     ·exact absurd ⟨rfl,rfl⟩ (hpw i j _ _ q hi hj)
     ·exact q
     ·exact absurd ⟨rfl,rfl⟩ (hpw j i _ _ q hj hi)
    rw [<-hone] at Jp;have e1:=Mp _ _ _ hx' Rb;have e2:=Mp _ _ _ hy' Jp;omega
  rw [hlast,cy]
end
def Bh(O:Nat->List gQ)(id:Nat)(o:gQ):Nat->List gQ:=fun j=>if j=id then O id++[o] else O j
theorem Iq(O:Nat->List gQ)(id:Nat)(o:gQ):Bh O id o id=O id++[o]:=aJ rfl
theorem Ar(O:Nat->List gQ){id j:Nat}(o:gQ)(h:j≠id):Bh O id o j=O j:=aE h
section
variable {E:Nat->Prop} {O:Nat->List gQ} {D:List Nat} {V:mT} {s:dW}
theorem eY.op(h:eY E O D V s)(hS:Safe s){id:Nat}(h1:1<=id)(h2:id<=s.dV.length)(hst:(s.tx id).state=1){o:gQ}{ws:List fR}(hk:(o.kind=1\/o.kind=2\/o.kind=3)/\o.key.size<=20)(NZ:pR (s.keys o.key) id (decide (o.kind≠1)))(hat:(s.tx id).ats.getD (ee s o.key) 0≠0)
  (hread:o.kind=1->(lC (O id) o.key).getD (V o.key)=JW o) (BN:∀ a∈D,(lC (O a) o.key).isSome=true->nQ (dy s (ee s o.key)).log 3 a) (hwn:(ws.map (·.key)).Nodup) (hw:∀ k,lq ws k=lC (O id++[o]) k):eY E (Bh O id o) D V (dY s id { s.tx id with writes:=ws }):=by
 have pz:jm s id:=⟨h1,h2,.inl hst⟩;have hlen:(dY s id { s.tx id with writes:=ws }).dV.length=s.dV.length:=by simp [dY]
 have hx:∀ j,1<=j->(dY s id { s.tx id with writes:=ws }).tx j=if j=id then { s.tx id with writes:=ws } else s.tx j:=fun j hj=>mq s id _ hj h1 h2
 have hD:id∉D:=fun q=>by have:=((h.dm id).1 q).2.2;omega
 have Jw:∀ j,((dY s id { s.tx id with writes:=ws }).tx j).state=(s.tx j).state/\((dY s id { s.tx id with writes:=ws }).tx j).ats=(s.tx j).ats:=fun j=>by
  by_cases e0:j=0
  ·subst e0;have q1:(dY s id { s.tx id with writes:=ws }).tx 0=(dY s id { s.tx id with writes:=ws }).tx 1:=rfl;have q2:s.tx 0=s.tx 1:=rfl;rw [q1,q2,hx 1 (by omega)];split
   ·rename_i e;rw [e];exact ⟨rfl,rfl⟩
   ·exact ⟨rfl,rfl⟩
  ·rw [hx j (by omega)];split
   ·rename_i e;rw [e];exact ⟨rfl,rfl⟩
   ·exact ⟨rfl,rfl⟩
 have hL:∀ {i},jm (dY s id { s.tx id with writes:=ws }) i->jm s i:=fun {i} q=>by
  unfold jm at q ⊢;rw [hlen,(Jw i).1] at q;exact q
 have en:∀ K,dy (dY s id { s.tx id with writes:=ws }) K=dy s K:=An rfl;have hfree:∀ K,K<dk s->∀ c∈(dy s K).log,c.tx.toNat≠id:=fun K hK c hc e=>by
  have KD:K<s.lines.length:=by have:=hS.dec_lt;omega
  have q:=(hS.log K KD).all c hc;exact hS.free hst KD hc (by have:=q.lo;omega)
 have Yf:∀ a∈D,Bh O id o a=O a:=fun a ha=>Ar O o (fun e=>hD (e ▸ ha));refine ⟨h.nd,fun i=>by rw [h.dm i,hlen,(Jw i).1],by rw [yGn D RF Yf];exact h.run,fun i q=>?_,fun i p hp=>?_,fun i q=>?_,fun i q p hp=>?_,fun i q1 q2 q3 p hp=>?_,fun i q=>?_,fun i q=>?_,fun K hK c hc q1 q2=>?_,fun i q wF p hp a ha q2=>?_,fun K hK i c hi q1 q2 p hp q3 a ha q4 q5=>?_⟩
 ·rw [hlen] at q;rw [Ar O o (fun e=>q (by rw [e];exact ⟨h1,h2⟩))];exact h.out i q
 ·by_cases e:i=id
  ·rw [e,Iq] at hp;rcases aL.1 hp with hp | hp
   ·exact h.kd id p hp
   ·simp at hp;rw [hp];exact hk
  ·rw [Ar O o e] at hp;exact h.kd i p hp
 ·by_cases e:i=id
  ·rw [e,Iq];exact yJs (h.opn id pz) hread
  ·rw [Ar O o e];exact h.opn i (hL q)
 ·by_cases e:i=id
  ·rw [e,Iq] at hp;rw [e];rcases aL.1 hp with hp | hp
   ·exact h.vr id pz p hp
   ·simp at hp;rw [hp];exact NZ
  ·rw [Ar O o e] at hp;exact h.vr i (hL q) p hp
 ·rw [(Jw i).1] at q3;rw [(Jw i).2];rw [hlen] at q2;by_cases e:i=id
  ·rw [e,Iq] at hp;rw [e];rcases aL.1 hp with hp | hp
   ·exact h.ats id h1 h2 (by omega) p hp
   ·simp at hp;rw [hp];exact hat
  ·rw [Ar O o e] at hp;exact h.ats i q1 q2 q3 p hp
 ·rw [hx i q.1];split
  ·exact hwn
  ·exact h.tz i (hL q)
 ·rw [hx i q.1];split
  ·rename_i e;rw [e,Iq];exact hw
  ·rename_i e;rw [Ar O o e];exact h.tu i (hL q)
 ·rw [en] at hc;rw [(Jw _).1] at q2;rw [Ar O o (hfree K hK c hc)];exact h.xE K hK c hc q1 q2
 ·rw [en];rw [Yf a ha] at q2;by_cases e:i=id
  ·rw [e,Iq] at hp;rcases aL.1 hp with hp | hp
   ·exact h.hd1 id pz (by rw [<-e];exact wF) p hp a ha q2
   ·simp at hp;rw [hp] at q2 ⊢;exact BN a ha q2
  ·rw [Ar O o e] at hp;exact h.hd1 i (hL q) wF p hp a ha q2
 ·rw [en] at hi ⊢;rw [(Jw _).1] at q2;rw [Ar O o (hfree K hK c (aC hi))] at hp;rw [Yf a ha] at q4;exact h.hd2 K hK i c hi q1 q2 p hp q3 a ha q4 q5
theorem eY.heads(h:eY E O D V s)(h2:2<=s.lines.length){k:ByteArray}(hT:Told s (ee s k)):∀ a∈D,(lC (O a) k).isSome=true->nQ (dy s (ee s k)).log 3 a:=fun a ha Ed=>by
 have hK:ee s k<dk s:=Bw h2 k;obtain ⟨o,ho,e1,_⟩:=JE Ed;obtain ⟨a1,a2,a3⟩:=(h.dm a).1 ha;have hat:=h.ats a a1 a2 (by omega) o ho;rw [e1] at hat;have nM:fb s a (ee s k) 1=some ⟨3,a,(s.tx a).time,[]⟩:=by
  unfold fb;simp only;rw [aE (by omega),aE hat,aE (by omega),aJ a3]
 exact hT a a1 a2 1 _ nM
theorem yPq(t:jO)(log:List dt)(k:ByteArray):JW ⟨1,k,(Fa t log k).1,(Fa t log k).2⟩=(((t.writes.reverse.find? fun p=>decide (p.key=k)).map oh).or (((pI log).find? fun p=>decide (p.key=k)).map oh)).getD Ih:=by
 unfold Fa ED;rw [List.find?_append];have val:∀ p:fR,JW ⟨1,k,(if p.gone then (ByteArray.empty,false) else (p.val,true)).1,(if p.gone then (ByteArray.empty,false) else (p.val,true)).2⟩=oh p:=fun p=>by
  unfold JW oh
  cases p.gone <;> rfl
 cases t.writes.reverse.find? fun p=>decide (p.key=k) with
 | some p=>exact val p
 | none=>
  simp only [Option.map_none,Option.none_or]
  cases (pI log).find? fun p=>decide (p.key=k) with
  | some p=>exact val p
  | none=>rfl
end
section
variable {E:Nat->Prop} {O:Nat->List gQ} {D:List Nat} {V:mT} {s:dW}
theorem eY.eE{X:List Int}(h:eY E O D V s)(hH:jD X s){i:Int}(hi:1<=i/\i<=(s.dV.length:Int)):eY E O D V (Go.Proofs.YtmaiggbnceejiaaGreatDoor.eE s i):=by
 unfold Go.Proofs.YtmaiggbnceejiaaGreatDoor.eE;split
 ·rename_i e;exact h.abort hH (by omega) (by omega) (by omega) (fun j _ q=>q)
 ·exact h
theorem eY.ma{X:List Int}:∀ (ids:List Int) {s:dW},eY E O D V s->jD X s->(∀ i∈ids,1<=i/\i<=(s.dV.length:Int))->eY E O D V (il s ids)
 | [],s,h,_,_=>h
 | i :: ids,s,h,hH,hi=>by
  have q:=hi i (by simp);show eY E O D V (il (Go.Proofs.YtmaiggbnceejiaaGreatDoor.eE s i) ids);exact eY.ma ids (h.eE hH q) (hH.eE q.1) (fun j hj=>by rw [Qn];exact hi j (by simp [hj]))
theorem eY.Mb(h:eY E O D V s)(hS:Safe s)(hH:Held s){id:Nat}(h1:1<=id)(h2:id<=s.dV.length)(ho:(s.tx id).state=1)(key:ByteArray)(hks:key.size<=20){mode:Int}(hm:mode=1\/mode=2):eY E O D V (jH s id key mode).1:=by
 have hi1:(1:Int)<=(id:Int):=by omega
 have hi2:(id:Int)<=(s.dV.length:Int):=by omega
 obtain ⟨l1,l2⟩:=hH.locked hi1 hi2 (by simpa using ho) key hks hm;have q:=h.locked hH id key hm;have hin:∀ i∈oK (gZ s id key mode).1 id key,1<=i/\i<=((gZ s id key mode).1.dV.length:Int):=fun i hi=>by
  unfold oK at hi;rw [al,ag] at hi;obtain ⟨⟨a,ha,rfl⟩,_⟩:=hi;rw [cL] at ha;omega
 unfold jH;simp only;split
 ·exact (q.ma _ l1 hin).locked (l1.ma (fun i hi=>(hin i hi).1)) id key hm
 ·exact q
theorem eY.lock(h:eY E O D V s)(hS:Safe s)(hH:Held s){id:Nat}(h1:1<=id)(h2:id<=s.dV.length)(ho:(s.tx id).state=1)(key:ByteArray)(hks:key.size<=20){mode:Int}(hm:mode=1\/mode=2) :
  eY E O D V (gC s id key mode).1/\((gC s id key mode).2=0->pR ((gC s id key mode).1.keys key) id (decide (mode=2))/\((gC s id key mode).1.tx id).ats.getD (ee s key) 0≠0):=by
 have hL:=Qf hS hH h1 h2 ho key hks hm;have q:=h.Mb hS hH h1 h2 ho key hks hm;have hG:=tr hS hH h1 h2 ho key hks hm;revert hG;unfold gC;simp only;split
 ·intro _;exact ⟨q,fun e=>by simp at e⟩
 split
 ·intro _;exact ⟨q,fun e=>by simp at e⟩
 obtain ⟨A,hA⟩:∃ A,A=jH s id key mode:=⟨_,rfl⟩;rw [<-hA] at hL q ⊢;have Rv:A.1.lines=s.lines:=hL.same.l;have hsk:ee A.1 key=ee s key:=by unfold ee dk;rw [Rv]
 rw [hsk,aS];have DE:A.1.dV.length=s.dV.length:=hL.same.len;have Yi:=hL.held.came (k:=ee s key) h1 (by rw [DE];exact h2);have Yh:(lZ A.1 id (ee s key)).dV.length=s.dV.length:=by show (dY _ _ _).dV.length=_;rw [kT,DE]
 have hin:∀ i∈A.2.1,1<=i/\i<=((lZ A.1 id (ee s key)).dV.length:Int):=fun i hi=>by rw [Yh];exact (hL.wd i hi).2
 have Yg:(lZ A.1 id (ee s key)).tx id={ s.tx id with ats:=(s.tx id).ats.set (ee s key) 1 }:=by
  show (dY A.1 id _).tx id=_;rw [mq A.1 id _ h1 h1 (by rw [DE];exact h2),aJ rfl,hL.me]
 have qc:eY E O D V (lZ A.1 id (ee s key)):=by
  refine q.Ve h1 (by rw [DE];exact h2) rfl (fun k hk=>?_) (.inl rfl);show ((A.1.tx id).ats.set _ 1).getD k 0≠0;rw [ny];split
  ·simp
  ·exact hk
 have qw:=qc.ma A.2.1 Yi hin;have hme:(il (lZ A.1 id (ee s key)) A.2.1).tx id=(lZ A.1 id (ee s key)).tx id:=(ru.fT A.2.1 _ (fun i hi=>(hin i hi).1)).other id h1 (fun e=>by have:=(hL.wd _ e).1;omega);intro hG;refine ⟨qw,fun e=>?_⟩;have hmode:¬ iM ((il (lZ A.1 id (ee s key)) A.2.1).keys key).held id<mode:=fun q2=>by rw [aJ q2] at e;simp at e
 refine ⟨pR.CQ (hG.held.apart key).ok hm hmode,?_⟩;rw [hme,Yg];show ((s.tx id).ats.set _ 1).getD _ 0≠0;rw [ny,aJ ⟨rfl,by rw [(hS.tx id h1 h2).len];have:=Bw hS.ll.1 key;have:=hS.dec_lt;omega⟩];simp
theorem fA.get{Q:List Nat->Prop}(h:fA Q O s)(hr:Rest s)(id:Nat)(key:ByteArray):((fL s id key).2.2.2=0->fA Q (Bh O id ⟨1,key,(fL s id key).2.1,(fL s id key).2.2.1⟩) (fL s id key).1)/\((fL s id key).2.2.2≠0->fA Q O (fL s id key).1):=by
 have YP:=hr.get id key;revert YP;unfold fL;split
 ·rename_i e1;intro _;exact ⟨fun e=>absurd e e1,fun _=>h⟩
 rename_i e1;intro YP;have Yu:nA s id key=0:=by simpa using e1
 obtain ⟨c1,c2,c3⟩:=nu Yu;obtain ⟨i,hid,h1,h2,ho⟩:=nY c1;obtain rfl:id=i:=by omega
 obtain ⟨hQ,D,V,hX,hD⟩:=h;have hG:=tr hr.c.safe hr.c.held h1 h2 ho key c2 (mode:=1) (.inl rfl);obtain ⟨qL,q0⟩:=hX.lock hr.c.safe hr.c.held h1 h2 ho key c2 (mode:=1) (.inl rfl);have BU:=hr.locked hG;simp only at YP ⊢;by_cases e2:(gC s id key 1).2=0
 ·rw [aE (fun q=>q e2)];refine ⟨fun _=>⟨hQ,D,V,?_,hD⟩,fun e=>absurd rfl e⟩;obtain ⟨l1,l2⟩:=q0 e2;obtain ⟨r,Wt⟩:∃ r,r=(gC s id key 1).1:=⟨_,rfl⟩;rw [<-Wt] at hG qL l1 l2 BU ⊢;have hsl:r.lines=s.lines:=hG.same.l;have hsk:ee r key=ee s key:=by unfold ee dk;rw [hsl]
  have hlen:r.dV.length=s.dV.length:=hG.same.len;have hK:ee s key<s.lines.length:=by have:=Bw hr.c.safe.ll.1 key;have:=hr.c.safe.dec_lt;omega
  obtain ⟨nh,XJ⟩:=az.1 c3;obtain ⟨hn0,oR⟩:=Iv hr.c.safe hK XJ;have Ce:dy r (ee s key)=dy s (ee s key):=An hsl _;have hT:Told r (ee r key):=by
   rw [hsk];refine BU.told _ (by rw [hsl];exact hK) ?_;rw [Ce,<-hn0,Io hG.same.d];exact oR
  have gk:((s.line (ee s key)).nodes.getD 0 ⟨0,0,[],[],0⟩).log=(dy r (ee r key)).log:=by rw [hsk,Ce];rfl
  have pz:jm r id:=⟨h1,by rw [hlen];exact h2,.inl hG.st⟩;rw [aS,gk];have My:dY r id { r.tx id with writes:=(r.tx id).writes }=r:=by
   unfold dY;have:r.dV.set (id - 1) (r.tx id)=r.dV:=by
    refine bf fun j=>?_;rw [bw];split
    ·rename_i e;split
     ·rw [<-e,tk h1 (by rw [hlen];exact h2)]
     ·rename_i q;rw [<-e];exact (aj (by omega)).symm
    ·rfl
   show { r with dV:=r.dV.set (id - 1) (r.tx id) }=r;rw [this]
  have:=qL.op BU.c.safe (o:=⟨1,key,(Fa (r.tx id) (dy r (ee r key)).log key).1,(Fa (r.tx id) (dy r (ee r key)).log key).2⟩) (ws:=(r.tx id).writes) h1 (by rw [hlen];exact h2) hG.st ⟨.inl rfl,c2⟩ (l1.less (by simp)) (by show (r.tx id).ats.getD (ee r key) 0≠0;rw [hsk];exact l2) (fun _=>?_) (qL.heads BU.c.safe.ll.1 hT) (qL.tz id pz) (fun k=>?_)
  ·rw [My] at this;exact this
  ·rw [yPq,yGh (qL.tz id pz),qL.tu id pz,qL.view BU.c.safe hT,Fl qL.run]
   cases lC (O id) key with
   | some v=>rfl
   | none=>rfl
  ·rw [qL.tu id pz,UF];simp [yf]
 ·rw [aJ e2];exact ⟨fun e=>absurd e e2,fun _=>⟨hQ,D,V,qL,hD⟩⟩
end
theorem ySu(p:fR)(v:ByteArray):yf ⟨if p.gone then 3 else 2,p.key,p.val,false⟩=some (oh p):=by
 unfold yf oh
 cases p.gone <;> rfl
theorem yKr{t:jO}{p:fR}(hn:(t.writes.map (·.key)).Nodup):((lV t p).writes.map (·.key)).Nodup/\∀ k,lq (lV t p).writes k=if p.key=k then some (oh p) else lq t.writes k:=by
 unfold lV
 cases hw:tn t p.key with
 | some n=>
  unfold tn at hw;obtain ⟨hnl,zS,Cd⟩:=bu.1 hw;have e:(t.writes[n]).key=p.key:=by simpa using zS
  have hm:(t.writes.set n p).map (·.key)=t.writes.map (·.key):=by
   rw [List.map_set];refine bf fun i=>?_;rw [bw];split
   ·rename_i q;split
    ·rw [<-q,bF,aA hnl,bS,e]
    ·rename_i q2;rw [<-q,aj (by omega)]
   ·rfl
  refine ⟨by show ((t.writes.set n p).map _).Nodup;rw [hm];exact hn,fun k=>?_⟩;show lq (t.writes.set n p) k=_;unfold lq;by_cases q:p.key=k
  ·rw [aJ q];have:(t.writes.set n p).find? (fun p=>decide (p.key=k))=some p:=by
    rw [List.find?_eq_some_iff_getElem];refine ⟨by simpa using q,n,by simpa using hnl,by simp,fun j hj=>?_⟩;rw [List.getElem_set_ne (by omega)];have:=Cd j hj;rw [<-q];simpa using this
   rw [this];rfl
  ·rw [aE q];congr 1;have key:∀ (l:List fR) (n:Nat) (h:n<l.length),(l[n]).key≠k->(l.set n p).find? (fun p=>decide (p.key=k))=l.find? fun p=>decide (p.key=k):=by
    intro l
    induction l with
    | nil=>intro n h;simp at h
    | cons a l ih=>
     intro n h hk
     cases n with
     | zero=>
      rw [List.set_cons_zero,cE,cE];have h1:a.key≠k:=hk;simp [h1,q]
     | succ n=>
      rw [dG,cE,cE,ih n (by simpa using h) (by simpa using hk)]
   exact key t.writes n hnl (by rw [e];exact q)
 | none=>
  unfold tn at hw;rw [List.findIdx?_eq_none_iff] at hw;have hno:∀ a∈t.writes,a.key≠p.key:=fun a ha=>by simpa using hw a ha
  refine ⟨?_,fun k=>?_⟩
  ·show ((t.writes++[p]).map _).Nodup;rw [ao,cD];refine ⟨hn,by simp,fun a ha b hb=>?_⟩;obtain ⟨c,hc,rfl⟩:=ag.1 ha;simp at hb;rw [hb];exact hno c hc
  ·show lq (t.writes++[p]) k=_;unfold lq;rw [List.find?_append];by_cases q:p.key=k
   ·rw [aJ q];have:t.writes.find? (fun p=>decide (p.key=k))=none:=by
     rw [cZ];intro a ha;have:=hno a ha;simp;rw [<-q];exact this
    rw [this];simp [q]
   ·rw [aE q]
    cases t.writes.find? fun p=>decide (p.key=k) with
    | some a=>rfl
    | none=>simp [q]
section
variable {Q:List Nat->Prop} {O:Nat->List gQ} {s:dW}
theorem fA.put(h:fA Q O s)(hr:Rest s)(id:Nat)(p:fR):((eZ s id p).2=0->fA Q (Bh O id ⟨if p.gone then 3 else 2,p.key,p.val,false⟩) (eZ s id p).1)/\((eZ s id p).2≠0->fA Q O (eZ s id p).1):=by
 unfold eZ;split
 ·exact ⟨fun e=>by simp at e,fun _=>h⟩
 split
 ·rename_i e1;exact ⟨fun e=>absurd e e1,fun _=>h⟩
 rename_i e1;have Yu:nA s id p.key=0:=by simpa using e1
 obtain ⟨c1,c2,c3⟩:=nu Yu;obtain ⟨i,hid,h1,h2,ho⟩:=nY c1;obtain rfl:id=i:=by omega
 rw [aS];split
 ·exact ⟨fun e=>by simp at e,fun _=>h⟩
 obtain ⟨hQ,D,V,hX,hD⟩:=h;have hG:=tr hr.c.safe hr.c.held h1 h2 ho p.key c2 (mode:=2) (.inr rfl);obtain ⟨qL,q0⟩:=hX.lock hr.c.safe hr.c.held h1 h2 ho p.key c2 (mode:=2) (.inr rfl);have BU:=hr.locked hG;simp only;by_cases e2:(gC s id p.key 2).2=0
 ·rw [aE (fun q=>q e2)];refine ⟨fun _=>⟨hQ,D,V,?_,hD⟩,fun e=>absurd rfl e⟩;obtain ⟨l1,l2⟩:=q0 e2;obtain ⟨r,Wt⟩:∃ r,r=(gC s id p.key 2).1:=⟨_,rfl⟩;rw [<-Wt] at hG qL l1 l2 BU ⊢;have hsl:r.lines=s.lines:=hG.same.l;have hsk:ee r p.key=ee s p.key:=by unfold ee dk;rw [hsl]
  have hlen:r.dV.length=s.dV.length:=hG.same.len;have hK:ee s p.key<s.lines.length:=by have:=Bw hr.c.safe.ll.1 p.key;have:=hr.c.safe.dec_lt;omega
  obtain ⟨nh,XJ⟩:=az.1 c3;obtain ⟨hn0,oR⟩:=Iv hr.c.safe hK XJ;have Ce:dy r (ee s p.key)=dy s (ee s p.key):=An hsl _;have hT:Told r (ee r p.key):=by
   rw [hsk];refine BU.told _ (by rw [hsl];exact hK) ?_;rw [Ce,<-hn0,Io hG.same.d];exact oR
  have pz:jm r id:=⟨h1,by rw [hlen];exact h2,.inl hG.st⟩;obtain ⟨w1,w2⟩:=yKr (p:=p) (qL.tz id pz);have hwt:lV (r.tx id) p={ r.tx id with writes:=(lV (r.tx id) p).writes }:=by
   unfold lV;split <;> rfl
  have lK:(if p.gone then (3:Int) else 2)=2\/(if p.gone then (3:Int) else 2)=3:=by cases p.gone <;> simp
  rw [hwt];refine qL.op BU.c.safe (o:=⟨if p.gone then 3 else 2,p.key,p.val,false⟩) (ws:=(lV (r.tx id) p).writes) h1 (by rw [hlen];exact h2) hG.st ⟨.inr lK,c2⟩ (l1.less (by simp)) (by show (r.tx id).ats.getD (ee r p.key) 0≠0;rw [hsk];exact l2) (fun e=>?_) (qL.heads BU.c.safe.ll.1 hT) w1 (fun k=>?_)
  ·simp only at e;omega
  ·rw [w2,UF,ySu p p.val,qL.tu id pz];simp
 ·rw [aJ e2];exact ⟨fun e=>absurd e e2,fun _=>⟨hQ,D,V,qL,hD⟩⟩
theorem fA.drop(h:fA Q O s)(hr:Rest s)(id:Int):fA Q O (pC s id).1:=by
 unfold pC;split
 ·exact h
 ·rename_i e;obtain ⟨i,rfl,h1,h2,ho⟩:=nY (by simpa using e);obtain ⟨hQ,D,V,hX,hD⟩:=h;exact ⟨hQ,D,V,hX.abort hr.c.held h1 h2 (by show (s.tx i).state≠3;omega) (fun j _ q=>q),hD⟩
theorem fA.begin(h:fA Q O s)(h2:2<=s.lines.length):fA Q O (nC s):=by
 obtain ⟨hQ,D,V,hX,hD⟩:=h;exact ⟨hQ,D,V,hX.begin h2,hD⟩
theorem fA.same{s':dW}(h:fA Q O s)(hS:Safe s)(ht:s'.dV=s.dV)(hk:s'.keys=s.keys)(hl:s'.lines.length=s.lines.length)(hn:∀ K,K<dk s->(dy s' K).log=(dy s K).log):fA Q O s':=by
 obtain ⟨hQ,D,V,hX,hD⟩:=h;exact ⟨hQ,D,V,hX.same ht hk hl hn hS.ll.1,hD⟩
end
section
variable {E:Nat->Prop} {O:Nat->List gQ} {D:List Nat} {V:mT} {s s':dW}
theorem eY.again{X:List Int}(h:eY E O D V s)(hH:jD X s){id:Nat}(h1:1<=id)(h2:id<=s.dV.length)(hst:(s.tx id).state=3)(hl:s'.lines=s.lines)(hlen:s'.dV.length=s.dV.length)(hk:s'.keys=gI s.keys id)(hx:∀ j,1<=j->j≠id->s'.tx j=s.tx j)(h3:(s'.tx id).state=3)(hat:(s'.tx id).ats=(s.tx id).ats):eY E O D V s':=by
 have ed:dk s'=dk s:=by unfold dk;rw [hl]
 have es:∀ k,ee s' k=ee s k:=fun k=>by unfold ee;rw [ed]
 have en:∀ K,dy s' K=dy s K:=An hl;have hL:∀ {i},jm s' i->i≠id/\jm s i/\s'.tx i=s.tx i:=fun {i} q=>by
  have hne:i≠id:=fun q2=>by rw [q2] at q;have:=q.2.2;omega
  have e:=hx i q.1 hne;refine ⟨hne,?_,e⟩;unfold jm at q ⊢;rw [hlen,e] at q;exact q
 have hS:∀ j,(s'.tx j).state=(s.tx j).state/\(s'.tx j).ats=(s.tx j).ats:=fun j=>by
  have key:∀ j,1<=j->(s'.tx j).state=(s.tx j).state/\(s'.tx j).ats=(s.tx j).ats:=fun j hj=>by
   by_cases e:j=id
   ·rw [e];exact ⟨by omega,hat⟩
   ·rw [hx j hj e];exact ⟨rfl,rfl⟩
  by_cases e0:j=0
  ·rw [e0];exact key 1 (by omega)
  ·exact key j (by omega)
 refine ⟨h.nd,fun i=>by rw [h.dm i,hlen,(hS i).1],h.run,by rw [hlen];exact h.out,h.kd,fun i q=>h.opn i (hL q).2.1,fun i q o ho=>?_,fun i q1 q2 q3 o ho=>?_,fun i q=>?_,fun i q=>?_,fun K hK c hc q1 q2=>?_,fun i q wF o ho a ha q2=>?_,fun K hK i c hi q1 q2 o ho q3 a ha q4 q5=>?_⟩
 ·obtain ⟨z1,z2,z3⟩:=hL q;rw [hk];exact (h.vr i z2 o ho).rel (hH.apart _).ok (by omega)
 ·rw [(hS i).1] at q3;rw [(hS i).2,es];rw [hlen] at q2;exact h.ats i q1 q2 q3 o ho
 ·obtain ⟨z1,z2,z3⟩:=hL q;rw [z3];exact h.tz i z2
 ·obtain ⟨z1,z2,z3⟩:=hL q;rw [z3];exact h.tu i z2
 ·rw [ed] at hK;rw [en] at hc;rw [(hS _).1] at q2;obtain ⟨z1,z2⟩:=h.xE K hK c hc q1 q2;exact ⟨z1,fun k hk=>z2 k (by rw [<-es];exact hk)⟩
 ·obtain ⟨z1,z2,z3⟩:=hL q;rw [es,en];exact h.hd1 i z2 wF o ho a ha q2
 ·rw [ed] at hK;rw [en] at hi ⊢;rw [(hS _).1] at q2;rw [es] at q3;exact h.hd2 K hK i c hi q1 q2 o ho q3 a ha q4 q5
end
section
variable {Q:List Nat->Prop} {O:Nat->List gQ}
theorem fA.follow{s:dW}(h:fA Q O s)(hS:Safe s)(hH:Held s){k:Nat}(hk:k<s.lines.length){c:dt}(hc:c∈jY s k):fA Q O (lW s k c):=by
 obtain ⟨hQ,D,V,hX,hD⟩:=h;have q:=(hS.log k hk).all c (As k c hc);obtain ⟨id,hid⟩:∃ id:Nat,c.tx=id:=⟨c.tx.toNat,by have:=q.lo;omega⟩;have h1:1<=id:=by have:=q.lo;omega
 have h2:id<=s.dV.length:=by have:=q.hi;omega
 unfold lW;rw [hid,aS];split
 ·rename_i e;have q2:=(q.dec e).2.2.1;rw [hid,aS] at q2;obtain ⟨t1,ht1⟩:∃ t,t={ s.tx id with time:=c.time }:=⟨_,rfl⟩;rw [<-ht1];have mw:(dY s id t1).dV.length=s.dV.length:=kT _ _ _;have e1:(dY s id t1).tx id=t1:=by rw [mq s id t1 h1 h1 h2,aJ rfl]
  unfold nr;rw [e1];obtain ⟨t2,ht2⟩:∃ t:jO,t={ t1 with state:=3,writes:=[] }:=⟨_,rfl⟩;rw [<-ht2];have hx2:∀ j,1<=j->({ dY (dY s id t1) id t2 with keys:=gI (dY s id t1).keys id }:dW).tx j=if j=id then t2 else s.tx j:=fun j hj=>by
   show (dY (dY s id t1) id t2).tx j=_;rw [mq _ id t2 hj h1 (by rw [mw];exact h2)];split
   ·rfl
   ·rename_i e;rw [mq s id t1 hj h1 h2,aE e]
  have hlen:({ dY (dY s id t1) id t2 with keys:=gI (dY s id t1).keys id }:dW).dV.length=s.dV.length:=by
   show (dY (dY s id t1) id t2).dV.length=_;rw [kT,mw]
  have a3:(({ dY (dY s id t1) id t2 with keys:=gI (dY s id t1).keys id }:dW).tx id).state=3:=by rw [hx2 id h1,aJ rfl,ht2]
  have a4:(({ dY (dY s id t1) id t2 with keys:=gI (dY s id t1).keys id }:dW).tx id).ats=(s.tx id).ats:=by rw [hx2 id h1,aJ rfl,ht2,ht1]
  rcases q2 with q2 | q2
  ·obtain ⟨V',hV⟩:=hX.AH (s':={ dY (dY s id t1) id t2 with keys:=gI (dY s id t1).keys id }) hS hH (d:=id) ⟨h1,h2,.inr q2⟩ rfl hlen rfl (fun j hj hne=>by rw [hx2 j hj,aE hne]) a3 a4;exact ⟨hQ,_,V',hV,hQ D id hD (fun q=>by have:=((hX.dm id).1 q).2.2;omega)⟩
  ·exact ⟨hQ,D,V,hX.again (s':={ dY (dY s id t1) id t2 with keys:=gI (dY s id t1).keys id }) hH h1 h2 q2 rfl hlen rfl (fun j hj hne=>by rw [hx2 j hj,aE hne]) a3 a4,hD⟩
 ·split
  ·refine ⟨hQ,D,V,hX.Ve h1 h2 rfl (fun j hj=>?_) (.inl rfl),hD⟩;show ((s.tx id).ats.set k 2).getD j 0≠0;rw [ny];split
   ·simp
   ·exact hj
  ·exact ⟨hQ,D,V,hX,hD⟩
theorem fA.Nt{s:dW}(h:fA Q O s)(hS:Safe s)(hH:Held s){k:Nat}(hk:k<s.lines.length){c:dt}(hc:∀ n∈(s.line k).nodes,n.log[(s.line k).heard]?=some c):fA Q O (lk k s c):=by
 have hb:=hS.bump hk (fun n hn=>(aB.1 (hc n hn)).1);have YD:Held (bump s k):=hH.lines rfl rfl;have hkb:k<(bump s k).lines.length:=by rw [xx];exact hk
 have hcm:c∈jY (bump s k) k:=by
  unfold jY;rw [JA s hk,FJ s hk,aJ rfl];have:=hc _ (hS.head_mem hk);show c∈(dy s k).log.take ((s.line k).heard+1);rw [qP this];simp
 rw [Iw s hk];exact (h.same (s':=bump s k) hS rfl rfl (xx s k) (fun K _=>by rw [JA s hk])).follow hb YD hkb hcm
theorem fA.Ea{k:Nat}:∀ (cs:List dt) {s:dW},fA Q O s->Safe s->Held s->k<s.lines.length->(∀ n∈(s.line k).nodes,∃ r,n.log.drop (s.line k).heard=cs++r)->fA Q O (cs.foldl (lk k) s)
 | [],s,h,_,_,_,_=>h
 | c :: cs,s,h,hS,hH,hk,hd=>by
  have hc:∀ n∈(s.line k).nodes,n.log[(s.line k).heard]?=some c:=fun n hn=>by
   obtain ⟨r,hr⟩:=hd n hn;have:=ae (fun l=>l[0]?) hr;simpa using this
  obtain ⟨q,hq⟩:=UB hS hH hk hc;refine fA.Ea cs (h.Nt hS hH hk hc) q.safe q.held (by rw [q.same.ll];exact hk) fun n hn=>?_;rw [q.same.nodes] at hn;obtain ⟨r,hr⟩:=hd n hn;refine ⟨r,?_⟩;rw [hq,<-List.drop_drop,hr];rfl
theorem fA.gX{s:dW}(h:fA Q O s)(hS:Safe s)(hH:Held s){k:Nat}(hk:k<s.lines.length):fA Q O (Go.Proofs.YtmaiggbnceejiaaGreatDoor.gX s k):=by
 have hL:=hS.line k hk;refine fA.Ea (kX s k) h hS hH hk fun n hn=>?_;obtain ⟨r,hr⟩:=hL.last ⟨0,0,[],[],0⟩ hn;refine ⟨r,?_⟩;rw [<-hr];unfold kX pE;rw [dB];exact hL.heard _ (LW hL.ne _)
theorem fA.hear{s:dW}(h:fA Q O s)(hS:Safe s)(hH:Held s):fA Q O (oI s):=by
 have key:∀ m,m<=s.lines.length->qM s (nn s m)/\fA Q O (nn s m):=by
  intro m
  induction m with
  | zero=>exact fun _=>⟨qM.refl hS hH,h⟩
  | succ m ih=>
   intro hm;rw [Lm];obtain ⟨a,b⟩:=ih (by omega);have jq:m<(nn s m).lines.length:=by rw [a.same.ll];omega
   obtain ⟨c,d⟩:=UX a.safe a.held jq;exact ⟨a.trans c,b.gX a.safe a.held jq⟩
 exact (key s.lines.length (aF _)).2
theorem yRp{s:dW}{id k:Nat}{time:Int}{c:dt}(hd:fb s id k time=some c)(h2:c.kind=2):c=⟨2,id,0,tt s (s.tx id) k⟩/\(s.tx id).state=2:=by
 unfold fb at hd;simp only at hd;split at hd
 ·split at hd
  ·cases hd;simp at h2
  ·cases hd
 ·split at hd
  ·cases hd
  ·split at hd
   ·rename_i e;cases hd;exact ⟨rfl,e⟩
   ·split at hd
    ·cases hd;simp at h2
    ·split at hd
     ·cases hd;simp at h2
     ·cases hd
theorem Hr{s:dW}{id k:Nat}{time:Int}{c:dt}(hd:fb s id k time=some c):c.tx=(id:Int):=by
 unfold fb at hd;simp only at hd;split at hd
 ·split at hd
  ·cases hd;rfl
  ·cases hd
 ·split at hd
  ·cases hd
  ·split at hd
   ·cases hd;rfl
   ·split at hd
    ·cases hd;rfl
    ·split at hd
     ·cases hd;rfl
     ·cases hd
theorem fA.gE{S:dW}(h:fA Q O S)(hS:Safe S){k:Nat}(hk:k<S.lines.length)(hv:fs S (dy S k)=true)(log:List dt){id:Nat}(h1:1<=id)(h2:id<=S.dV.length):fA Q O (Go.Proofs.YtmaiggbnceejiaaGreatDoor.gE S k log id):=by
 unfold Go.Proofs.YtmaiggbnceejiaaGreatDoor.gE
 cases hd:fb S id k ((dy S k).log.length+1) with
 | none=>exact h
 | some c=>
  simp only;split
  ·obtain ⟨hQ,D,V,hX,hD⟩:=h;obtain ⟨t1,t2⟩:=gb.add hS hk hv c;refine ⟨hQ,D,V,hX.grow t1.dV t1.keys t1.mv.ll hS.ll.1 (K:=k) (c:=c) (fun i hi hne=>by rw [t2,aE hne]) (fun _=>by rw [t2,aJ rfl];exact (Bu _ c).2.1) (fun _ hk2 _=>?_),hD⟩;obtain ⟨e1,e2⟩:=yRp hd hk2;have e3:=Hr hd;rw [e3,aS];exact ⟨⟨h1,h2,.inr e2⟩,fun q=>q,by rw [e1]⟩
  ·exact h
theorem fA.eV{s:dW}(h:fA Q O s)(hS:Safe s){k:Nat}(hk:k<s.lines.length):fA Q O (Go.Proofs.YtmaiggbnceejiaaGreatDoor.eV s k):=by
 unfold Go.Proofs.YtmaiggbnceejiaaGreatDoor.eV
 cases hh:td s k with
 | none=>exact h
 | some n=>
  obtain ⟨rfl,hl⟩:=Iv hS hk hh;simp only;have key:∀ m,m<=s.dV.length->Dm s (((List.range m).map (·+1)).foldl (fun h id=>Go.Proofs.YtmaiggbnceejiaaGreatDoor.gE h k (dy s k).log id) s) k m/\fA Q O (((List.range m).map (·+1)).foldl (fun h id=>Go.Proofs.YtmaiggbnceejiaaGreatDoor.gE h k (dy s k).log id) s):=by
   intro m
   induction m with
   | zero=>exact fun _=>⟨⟨hS,gb.refl s,⟨[],by simp,by simp⟩,fun id i1 i2=>by omega,fun _ _=>rfl,hl⟩,h⟩
   | succ m ih=>
    intro hm;rw [aY,ao,aX];obtain ⟨a,b⟩:=ih (by omega);refine ⟨a.step hk (by omega),?_⟩;generalize ((List.range m).map (·+1)).foldl (fun h id=>Go.Proofs.YtmaiggbnceejiaaGreatDoor.gE h k (dy s k).log id) s=S at a b;exact b.gE a.safe (by rw [a.tells.mv.ll];exact hk) a.live _ (show 1<=m+1 by omega) (show m+1<=S.dV.length by rw [a.tells.dV];omega)
  exact (key s.dV.length (aF _)).2
theorem fA.tell{s:dW}(h:fA Q O s)(hS:Safe s):fA Q O (jd s):=by
 have key:∀ m,m<=s.lines.length->Safe ((List.range m).foldl Go.Proofs.YtmaiggbnceejiaaGreatDoor.eV s)/\((List.range m).foldl Go.Proofs.YtmaiggbnceejiaaGreatDoor.eV s).lines.length=s.lines.length/\fA Q O ((List.range m).foldl Go.Proofs.YtmaiggbnceejiaaGreatDoor.eV s):=by
  intro m
  induction m with
  | zero=>exact fun _=>⟨hS,rfl,h⟩
  | succ m ih=>
   intro hm;rw [aY,aX];obtain ⟨a,b,c⟩:=ih (by omega);generalize (List.range m).foldl Go.Proofs.YtmaiggbnceejiaaGreatDoor.eV s=S at a b c;obtain ⟨a',b',_⟩:=Ud a (k:=m) (by omega);exact ⟨a',by show (Go.Proofs.YtmaiggbnceejiaaGreatDoor.eV S m).lines.length=_;rw [b'.mv.ll,b],c.eV a (by omega)⟩
 exact (key s.lines.length (aF _)).2.2
theorem fA.ez:∀ (n:Nat) {s:dW},fA Q O s->Safe s->Held s->fA Q O (Go.Proofs.YtmaiggbnceejiaaGreatDoor.ez n s)
 | 0,s,h,_,_=>h
 | n+1,s,h,hS,hH=>by
  unfold Go.Proofs.YtmaiggbnceejiaaGreatDoor.ez;split
  ·have q:=(FO hS hH).1;exact fA.ez n ((h.hear hS hH).tell (JB hS hH).1.safe) q.safe q.held
  ·exact h
theorem fA.settle{s:dW}(h:fA Q O s)(hS:Safe s)(hH:Held s):fA Q O (mH s):=h.ez _ hS hH
end
section
variable {E E':Nat->Prop} {O:Nat->List gQ} {D:List Nat} {V:mT} {s s':dW}
theorem eY.less(h:eY E O D V s)(hE:∀ id,jm s id->¬ E' id->¬ E id):eY E' O D V s:=
 ⟨h.nd,h.dm,h.run,h.out,h.kd,h.opn,h.vr,h.ats,h.tz,h.tu,h.xE,fun id q wF=>h.hd1 id q (hE id q wF),h.hd2⟩
theorem eY.line(h:eY (fun _=>False) O D V s)(hS:Safe s)(ht:s'.dV=s.dV)(hk:s'.keys=s.keys)(hl:s'.lines.length=s.lines.length){k:Nat}(lK:k<dk s)(hn:∀ i,i≠k->(dy s' i).log=(dy s i).log)(hp:(dy s' k).log <+: (dy s k).log):eY (fun id=>0<id/\kE s' k (id - 1)=true) O D V s':=by
 have e:∀ i,s'.tx i=s.tx i:=fun i=>by unfold dW.tx;rw [ht]
 have ed:dk s'=dk s:=by unfold dk;rw [hl]
 have es:∀ k,ee s' k=ee s k:=fun k=>by unfold ee;rw [ed]
 have hL:∀ {i},jm s' i->jm s i:=fun {i} q=>by unfold jm at q ⊢;rw [ht,e] at q;exact q
 obtain ⟨t,htl⟩:=hp;have hget:∀ (i:Nat) c,(dy s' k).log[i]?=some c->(dy s k).log[i]?=some c:=fun i c hi=>by
  rw [<-htl,aI (aB.1 hi).1];exact hi
 have hback:∀ (i j:Nat) c d,(dy s' k).log[i]?=some c->j<i->(dy s k).log[j]?=some d->(dy s' k).log[j]?=some d:=fun i j c d hi BL hj=>by
  have:=(aB.1 hi).1;rw [<-htl,aI (by omega)] at hj;exact hj
 refine ⟨h.nd,fun id=>by rw [ht,e];exact h.dm id,h.run,by rw [ht];exact h.out,h.kd,fun id q=>h.opn id (hL q),fun id q=>by rw [hk];exact h.vr id (hL q),fun id q1 q2 q3 o ho=>by rw [e,es];rw [ht] at q2;rw [e] at q3;exact h.ats id q1 q2 q3 o ho,
  fun id q=>by rw [e];exact h.tz id (hL q),fun id q=>by rw [e];exact h.tu id (hL q),fun K hK c hc q1 q2=>?_,fun id q hE o ho a ha q2=>?_,fun K hK i c hi q1 q2 o ho q3 a ha q4 q5=>?_⟩
 ·rw [ed] at hK;rw [e] at q2;have hc':c∈(dy s K).log:=by
   by_cases q:K=k
   ·rw [q] at hc ⊢;rw [<-htl];exact bP _ hc
   ·rw [hn K q] at hc;exact hc
  obtain ⟨z1,z2⟩:=h.xE K hK c hc' q1 q2;exact ⟨z1,fun k hk=>z2 k (by rw [<-es];exact hk)⟩
 ·rw [es];by_cases q0:ee s o.key=k
  ·have hq:=hL q;have hat:=h.ats id hq.1 hq.2.1 (by have:=hq.2.2;omega) o ho;rw [q0] at hat ⊢;have hnl:kE s' k (id - 1)=false:=by
    cases hx:kE s' k (id - 1) with
    | false=>rfl
    | true=>exact absurd ⟨by have:=hq.1;omega,hx⟩ hE
   unfold kE at hnl;simp only at hnl;rw [show id - 1+1=id by have:=hq.1;omega,e] at hnl;have hint:((id - 1:Nat):Int)+1=(id:Int):=by have:=hq.1;omega
   rw [hint] at hnl;simp only [hat,ne_eq,not_false_eq_true,decide_true,Bool.true_and,Bool.or_eq_false_iff,bT,Bool.and_eq_false_imp,ar] at hnl;have hst:(s.tx id).state=2:=by have:=hq.2.2;have:=hnl.1;omega
   have hpl:=hnl.2 hst
   cases hpc:kq (dy s' k).log 2 id with
   | none=>rw [hpc] at hpl;cases hpl
   | some n=>
    unfold kq at hpc;obtain ⟨XI,zS,_⟩:=bu.1 hpc;simp only [bN,ar] at zS;have Nr:(dy s' k).log[n]?=some (dy s' k).log[n]:=aA XI;have htx:((dy s' k).log[n]).tx.toNat=id:=by rw [zS.2];simp
    obtain ⟨j,d,z1,z2,z3,z4⟩:=h.hd2 k lK n _ (hget n _ Nr) zS.1 (by rw [htx];omega) o (by rw [htx];exact ho) q0 a ha q2 (fun hb=>by
     exfalso;rw [htx] at hb;have:=((h.dm id).1 hb).2.2;omega)
    exact ⟨d,aC (hback n j _ d Nr z1 z2),z3,z4⟩
  ·rw [hn _ q0];exact h.hd1 id (hL q) (fun q=>q) o ho a ha q2
 ·rw [ed] at hK;rw [e] at q2;rw [es] at q3;by_cases q:K=k
  ·rw [q] at hi q3 ⊢;obtain ⟨j,d,z1,z2,z3⟩:=h.hd2 k lK i c (hget i c hi) q1 q2 o ho q3 a ha q4 q5;exact ⟨j,d,z1,hback i j c d hi z1 z2,z3⟩
  ·rw [hn K q] at hi ⊢;exact h.hd2 K hK i c hi q1 q2 o ho q3 a ha q4 q5
theorem zRz{s:dW}(h:Safe s)(hH:Held s){k:Nat}(hk:k<s.lines.length):∀ m,m<=s.dV.length->fe s ((List.range m).foldl (fun h i=>if kE h k i then gO h (i+1) else h) s)/\gB s ((List.range m).foldl (fun h i=>if kE h k i then gO h (i+1) else h) s):=by
 intro m
 induction m with
 | zero=>exact fun _=>⟨fe.refl h hH,gB.refl s⟩
 | succ m ih=>
  intro hm;rw [aY,aX];obtain ⟨a,b⟩:=ih (by omega);generalize (List.range m).foldl (fun h i=>if kE h k i then gO h (i+1) else h) s=S at a b;show fe s (if kE S k m then gO S (m+1) else S)/\gB s (if kE S k m then gO S (m+1) else S);split
  ·rename_i hl;have jq:m+1<=S.dV.length:=by rw [b.len];omega
   have xM:k<S.lines.length:=by rw [b.l];exact hk
   unfold kE at hl;simp only [bN,cF,ar] at hl;obtain ⟨mw,hl2⟩:=hl;have hx:=a.safe.tx (m+1) (by omega) jq;have lK:k<dk S:=by
    have:k≠dk S:=fun e=>mw (by rw [e];exact hx.dec);unfold dk at this ⊢;omega
   have Em:Held (gO S (m+1)):=a.held.abort (m+1) (by omega) (fun x hx=>by simp at hx);rcases hl2 with q | ⟨q,q2⟩
   ·exact ⟨a.trans ⟨a.safe.abort (by omega) jq q,Em,km.abort (by omega) jq (by omega),by rw [CC]⟩,b.trans (gB.abort S _)⟩
   ·have hr:tj (S.tx (m+1))=false:=by
     apply aR;intro hn;simp only [Bool.not_eq_false] at hn;have:=FK.1 hn k;have:=hx.nf k;have h2:(S.tx (m+1)).ats.getD k 0=2:=by omega
     have:=VV a.safe (by omega) jq lK h2;have e:((m+1:Nat):Int)=(m:Int)+1:=by omega
     rw [e,q2] at this;cases this
    exact ⟨a.trans ⟨a.safe.vI (by omega) jq q hr,Em,km.abort (by omega) jq (by omega),by rw [CC]⟩,b.trans (gB.abort S _)⟩
  ·exact ⟨a,b⟩
theorem eY.wG(hS:Safe s)(hH:Held s){k:Nat}(hk:k<s.lines.length)(h:eY (fun id=>0<id/\kE s k (id - 1)=true) O D V s):eY (fun _=>False) O D V (pF s k):=by
 unfold pF;have key:∀ m,m<=s.dV.length->eY (fun id=>m<id/\kE ((List.range m).foldl (fun h i=>if kE h k i then gO h (i+1) else h) s) k (id - 1)=true) O D V ((List.range m).foldl (fun h i=>if kE h k i then gO h (i+1) else h) s):=by
  intro m
  induction m with
  | zero=>exact fun _=>h
  | succ m ih=>
   intro hm;have c:=ih (by omega);obtain ⟨a,b⟩:=zRz hS hH hk m (by omega);rw [aY,aX];generalize (List.range m).foldl (fun h i=>if kE h k i then gO h (i+1) else h) s=S at a b c;show eY (fun id=>m+1<id/\kE (if kE S k m then gO S (m+1) else S) k (id - 1)=true) O D V (if kE S k m then gO S (m+1) else S);have jq:m+1<=S.dV.length:=by rw [b.len];omega
   cases hl:kE S k m with
   | true=>
    rw [aJ rfl];have hl':=hl;unfold kE at hl';simp only [bN,cF,ar] at hl';refine c.abort a.held (by omega) jq (by have:=hl'.2;omega) (fun j hj XP q=>XP ⟨by omega,?_⟩);have hjn:(gO S (m+1)).tx (j - 1+1)=S.tx (j - 1+1):=Dk S (by omega);have hn0:dy (gO S (m+1)) k=dy S k:=An (zVg S _) k;have:kE (gO S (m+1)) k (j - 1)=kE S k (j - 1):=by unfold kE;simp only;rw [hjn,hn0]
    rw [this];exact q.2
   | false=>
    rw [aE (by simp)];refine c.less (fun id hq XP q=>?_);by_cases e:id=m+1
    ·rw [e,bZ,hl] at q;exact absurd q.2 (by simp)
    ·exact XP ⟨by omega,q.2⟩
 obtain ⟨a,b⟩:=zRz hS hH hk s.dV.length (aF _);exact (key s.dV.length (aF _)).less (fun id hq _ q=>by have:=hq.2.1;rw [b.len] at this;omega)
end
end Go.Proofs.YtmaiggbnceejiaaGreatDoor
