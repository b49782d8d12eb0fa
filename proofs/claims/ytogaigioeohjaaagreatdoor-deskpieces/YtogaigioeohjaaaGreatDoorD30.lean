import Derived.Test.YtogaigioeohjaaaGreatDoorD29
import Derived.Test.YtogaigioeohjaaaGreatDoorD28
set_option linter.unusedVariables false
set_option maxRecDepth 100000
set_option maxHeartbeats 16000000
namespace Go.Proofs.YtogaigioeohjaaaGreatDoor
theorem yIn{h:zAa}{ns:List zAl}{id:Int}{j:Nat}(e:zUa h ns id=some j):∃ n,ns[j]?=some n/\zAu h n=true/\n.id=id:=by
 unfold zUa at e
 rw [List.findIdx?_eq_some_iff_getElem] at e
 obtain ⟨hj,h1,_⟩:=e
 simp only [Bool.and_eq_true,decide_eq_true_eq] at h1
 exact ⟨ns[j],List.getElem?_eq_getElem hj,h1.1,h1.2⟩
theorem zVg{h:zAa}{id:Int}:∀ {k0:Nat} {ls:List zCs} {k j:Nat},zQr h id k0 ls=some (k,j)->∃ l n,k0<=k/\ls[k - k0]?=some l/\l.nodes[j]?=some n/\zAu h n=true/\n.id=id
 | k0,[],k,j,e=>by simp [zQr] at e
 | k0,l :: ls,k,j,e=>by
  unfold zQr at e
  cases hf:zUa h l.nodes id with
  | some i=>
   rw [hf] at e
   simp only [Option.some.injEq,Prod.mk.injEq] at e
   obtain ⟨rfl,rfl⟩:=e
   obtain ⟨n,q⟩:=yIn hf
   exact ⟨l,n,Nat.le_refl _,by simp,q⟩
  | none=>
   rw [hf] at e
   obtain ⟨l',n,q1,q2,q3⟩:=zVg e
   exact ⟨l',n,by omega,by rw [show k - k0=(k - (k0+1))+1 by omega];simpa using q2,q3⟩
theorem zJs{s:zAa}{id:Int}{k j:Nat}(e:zIo s id=some (k,j)):k<s.lines.length/\∃ n,(s.line k).nodes[j]?=some n/\zAu s n=true/\n.id=id:=by
 obtain ⟨l,n,_,q2,q3⟩:=zVg e
 rw [Nat.sub_zero] at q2
 have hk:=(List.getElem?_eq_some_iff.1 q2).1
 have e1:=zBj hk
 rw [q2] at e1
 cases e1
 exact ⟨hk,n,q3⟩
theorem zFq{s:zAa}{k j:Nat}{n:zAl}(h:(s.line k).nodes[j]?=some n):zAo s k j=n:=by
 unfold zAo;rw [List.getD_eq_getElem?_getD,h];rfl
theorem Safe.step{s:zAa}(h:Safe s){k j:Nat}(hk:k<s.lines.length){n:zAl}(hj:(s.line k).nodes[j]?=some n){m:MsgD}(hm:yCk s m):Safe (zHv s k j m):=by
 unfold zHv
 rw [zFq hj]
 obtain ⟨g1,g2,g3⟩:=zRv n m
 have hL:=h.line k hk
 have hS:Safe (setNode s k j (zCt n m).1):=by
  rcases g2 with e | ⟨e1,e2,e3,e4,e5⟩
  ·refine h.node hk hj g1 (by rw [e];exact List.prefix_refl _) (by rw [e];exact hL.few n (List.mem_of_getElem? hj)) (fun i p hi hp=>?_) (fun e0=>?_)
   ·rw [e];exact (zJr.1 hL.ord i j p n hi hp hj).2
   ·rw [e];exact h.logs hk (List.mem_of_getElem? hj)
  ·obtain ⟨i,a,hi,ha,haid⟩:=hL.nbr hj (yDt e2)
   have hij:i+1=j:=by omega
   obtain ⟨N,q1,q2⟩:=hm e1 k hk a (List.mem_of_getElem? ha) haid
   have hN:N=n.log.length:=by omega
   subst hN
   have hpre:n.log++[m.cmd] <+: a.log:=by
    obtain ⟨t,ht⟩:=(zJr.1 hL.ord i j a n (by omega) ha hj).2
    rw [<-ht] at q2 ⊢
    rw [List.getElem?_append_right (Nat.le_refl _),Nat.sub_self] at q2
    cases t with
    | nil=>simp at q2
    | cons x t=>simp at q2;subst q2;exact ⟨t,by simp⟩
   refine h.node hk hj g1 (by rw [e5];exact List.prefix_append _ _) (by rw [e5];simp;omega) (fun i' p hi' hp=>?_) (fun e0=>by omega)
   rw [e5]
   by_cases e6:i'=i
   ·subst e6;rw [ha] at hp;cases hp;exact hpre
   ·exact hpre.trans (zJr.1 hL.ord i' i p a (by omega) hp ha).2
 refine hS.send fun m' hm'=>?_
 have hk':k<(setNode s k j (zCt n m).1).lines.length:=by rw [zIl];exact hk
 refine hS.sent hk' (n:=(zCt n m).1) ?_ (g3 m' hm')
 rw [zEa s hk,if_pos rfl]
 exact List.mem_of_getElem? (i:=j) (by rw [zDn,if_pos ⟨rfl,(List.getElem?_eq_some_iff.1 hj).1⟩])
theorem zCk.step{s:zAa}{k j:Nat}(hk:k<s.lines.length){n:zAl}(hj:(s.line k).nodes[j]?=some n)(hv:zAu s n=true)(m:MsgD):zCk s (zHv s k j m):=by
 unfold zHv
 rw [zFq hj]
 obtain ⟨g1,g2,g3⟩:=zRv n m
 refine zCk.node1 hk hj g1 ?_ (fun q=>by rw [hv] at q;cases q) _
 rcases g2 with e | ⟨_,_,_,_,e⟩
 ·rw [e];exact List.prefix_refl _
 ·rw [e];exact List.prefix_append _ _
theorem zJb{s:zAa}(h:Safe s)(hH:Held s)(k:Nat):zBv s (zBb s k):=by
 unfold zBb
 cases hm:s.net.way[k]? with
 | none=>exact zBv.refl h hH
 | some m=>
  have ht:Safe (zBi s k):=h.way fun m' hm'=>List.mem_of_mem_eraseIdx hm'
  have hT:zBv s (zBi s k):=⟨ht,hH.lines rfl rfl,(zGx.refl s).net _,zGo.of rfl,rfl,fun e=>Nat.le_trans (List.length_eraseIdx_le _ _) e⟩
  simp only
  cases hn:zIo s m.to with
  | none=>exact hT
  | some kj=>
   obtain ⟨kk,j⟩:=kj
   obtain ⟨hk,n,q1,q2,q3⟩:=zJs hn
   have hm':yCk (zBi s k) m:=h.msg m (List.mem_of_getElem? hm)
   have hS:=ht.step (k:=kk) (j:=j) (n:=n) hk q1 hm'
   have hT2:zBv (zBi s k) (zHv (zBi s k) kk j m):=(zCk.step (s:=zBi s k) hk q1 q2 m).toS hS hT.held
   exact (hT.trans hT2).trans (zGa hS hT2.held).1
theorem Safe.tick1{s:zAa}(h:Safe s){k j:Nat}(hk:k<s.lines.length):Safe (tick1 k s j)/\zCk s (tick1 k s j):=by
 unfold Go.Proofs.YtogaigioeohjaaaGreatDoor.tick1
 split
 ·by_cases hj:j<(s.line k).nodes.length
  ·have hj':(s.line k).nodes[j]?=some (zAo s k j):=by rw [List.getElem?_eq_getElem hj];unfold zAo;rw [List.getD_eq_getElem?_getD,List.getElem?_eq_getElem hj];rfl
   obtain ⟨g1,g2,g3⟩:=zJn (zAo s k j)
   have hL:=h.line k hk
   have hS:Safe (setNode s k j (zEd (zAo s k j)).1):=by
    refine h.node hk hj' g1 (by rw [g2];exact List.prefix_refl _) (by rw [g2];exact hL.few _ (List.mem_of_getElem? hj')) (fun i p hi hp=>?_) (fun e0=>?_)
    ·rw [g2];exact (zJr.1 hL.ord i j p _ hi hp hj').2
    ·rw [g2];exact h.logs hk (List.mem_of_getElem? hj')
   refine ⟨hS.send fun m' hm' h3=>?_,zCk.node1 hk hj' g1 (by rw [g2];exact List.prefix_refl _) (fun _=>g2) _⟩
   have:=(g3 m' hm').2
   omega
  ·have hz:zAo s k j=⟨0,0,[],[],0⟩:=by unfold zAo;rw [List.getD_eq_getElem?_getD,List.getElem?_eq_none (by omega)];rfl
   have hset:∀ n,setNode s k j n=s:=fun n=>by
    unfold setNode setLine
    have e1:(s.line k).nodes.set j n=(s.line k).nodes:=List.set_eq_of_length_le (by omega)
    rw [e1]
    have e2:s.lines.set k ⟨(s.line k).nodes,(s.line k).heard⟩=s.lines:=by
     refine List.ext_getElem? fun i=>?_
     rw [zDn]
     split
     ·rename_i e;rw [e.1,zBj hk]
     ·rfl
    rw [e2]
   have hms:(zEd (zAo s k j)).2=[]:=by rw [hz];rfl
   rw [hset,hms]
   exact ⟨h,zCk.refl s⟩
 ·exact ⟨h,zCk.refl s⟩
theorem zKb{s:zAa}(h:Safe s){k:Nat}(hk:k<s.lines.length):Safe (zDq s k)/\zCk s (zDq s k):=by
 unfold zDq
 generalize List.range (s.line k).nodes.length=js
 suffices key:∀ (js:List Nat) (S:zAa),Safe S->zCk s S->Safe (js.foldl (tick1 k) S)/\zCk s (js.foldl (tick1 k) S) from key js s h (zCk.refl s)
 intro js
 induction js with
 | nil=>exact fun S a b=>⟨a,b⟩
 | cons j js ih=>
  intro S a b
  obtain ⟨c,d⟩:=a.tick1 (k:=k) (j:=j) (by rw [b.mv.ll];exact hk)
  exact ih _ c (b.trans d)
theorem zLx{s:zAa}(h:Safe s):Safe (zFm s)/\zCk s (zFm s):=by
 unfold zFm
 suffices key:∀ m,m<=s.lines.length->Safe ((List.range m).foldl zDq s)/\zCk s ((List.range m).foldl zDq s) from key _ (Nat.le_refl _)
 intro m
 induction m with
 | zero=>exact fun _=>⟨h,zCk.refl s⟩
 | succ m ih=>
  intro hm
  rw [List.range_succ,List.foldl_append]
  obtain ⟨a,b⟩:=ih (by omega)
  obtain ⟨c,d⟩:=zKb a (k:=m) (by rw [b.mv.ll];omega)
  exact ⟨c,b.trans d⟩
def becF(l:zCs)(n:zAl):zAl:=(zEd (becN n (zDy l) (l.nodes.map (·.id)))).1
theorem yRu{l:zCs}{n:zAl}(hi:inN n=true):(becF l n).id=n.id/\(becF l n).epoch=zDy l/\(becF l n).nodes=l.nodes.map (·.id)/\(becF l n).log=n.log:=by
 have e:becN n (zDy l) (l.nodes.map (·.id))=zQt n (zDy l) (l.nodes.map (·.id)):=by
  unfold becN;rw [hi];rfl
 unfold becF
 rw [e]
 obtain ⟨g1,g2,_⟩:=zJn (zQt n (zDy l) (l.nodes.map (·.id)))
 exact ⟨g1.id,g1.ep,g1.cf,g2⟩
theorem zKm(l:zCs):(zBy l).1=⟨l.nodes.map (becF l),l.heard⟩:=rfl
theorem zQm{l:zCs}{m:MsgD}(h:m∈(zBy l).2):m.kind=1\/m.kind=4:=by
 unfold zBy at h
 simp only [List.mem_flatMap] at h
 obtain ⟨n,_,hm⟩:=h
 exact ((zJn _).2.2 m hm).2
theorem zGv.fix{k:Nat}{l:zCs}(h:zGv k l){ns:List zAl}(hs:ns.Sublist l.nodes)(hne:ns≠[])(hlt:ns.length<l.nodes.length):zGv k (zBy ⟨ns,l.heard⟩).1/\∀ n∈ns,(becF ⟨ns,l.heard⟩ n).id=n.id/\(becF ⟨ns,l.heard⟩ n).log=n.log:=by
 have hin:∀ n∈ns,Go.Proofs.YtogaigioeohjaaaGreatDoor.inN n=true:=fun n hn=>h.inN (hs.subset hn)
 have hb:∀ n∈ns,_:=fun n hn=>yRu (l:=⟨ns,l.heard⟩) (hin n hn)
 rw [zKm]
 refine ⟨⟨fun e=>hne (by simpa using e),?_,fun x hx=>?_,fun x hx=>?_,?_,fun x hx=>?_,fun x hx=>?_⟩,fun n hn=>⟨(hb n hn).1,(hb n hn).2.2.2⟩⟩
 ·rw [List.pairwise_map]
  refine List.Pairwise.imp_of_mem ?_ (h.ord.sublist hs)
  intro a b ha hb' hab
  rw [(hb a ha).1,(hb b hb').1,(hb a ha).2.2.2,(hb b hb').2.2.2];exact hab
 ·obtain ⟨n,hn,rfl⟩:=List.mem_map.1 hx
  rw [(hb n hn).1];exact h.rng n (hs.subset hn)
 ·obtain ⟨n,hn,rfl⟩:=List.mem_map.1 hx
  rw [(hb n hn).2.2.1]
  show ns.map (·.id)=(ns.map (becF ⟨ns,l.heard⟩)).map (·.id)
  rw [List.map_map]
  exact List.map_congr_left fun a ha=>((hb a ha).1).symm
 ·obtain ⟨E,h1,h2,h3⟩:=h.ep
  refine ⟨E+1,by omega,by show E+1+((ns.map _).length:Int)<=6;rw [List.length_map];omega,fun x hx=>?_⟩
  obtain ⟨n,hn,rfl⟩:=List.mem_map.1 hx
  rw [(hb n hn).2.1]
  unfold zDy
  cases ns with
  | nil=>exact absurd rfl hne
  | cons a ns=>show a.epoch+1=E+1;rw [h3 a (hs.subset (by simp))]
 ·obtain ⟨n,hn,rfl⟩:=List.mem_map.1 hx
  rw [(hb n hn).2.2.2];exact h.heard n (hs.subset hn)
 ·obtain ⟨n,hn,rfl⟩:=List.mem_map.1 hx
  rw [(hb n hn).2.2.2];exact h.few n (hs.subset hn)
def lineF(s:zAa)(k:Nat):zAa:=zLb (setLine s k (zBy ⟨zAk s k,(s.line k).heard⟩).1) (zBy ⟨zAk s k,(s.line k).heard⟩).2
theorem zMh(s:zAa){k:Nat}(hk:k<s.lines.length)(i:Nat):(lineF s k).line i=if i=k then (zBy ⟨zAk s k,(s.line k).heard⟩).1 else s.line i:=zOi s k _ i hk
theorem zEv(s:zAa)(k:Nat):(lineF s k).lines.length=s.lines.length:=by simp [lineF,setLine,zLb]
theorem Safe.lineF{s:zAa}(h:Safe s){k:Nat}(hk:k<s.lines.length)(hne:zAk s k≠[])(hlt:(zAk s k).length<(s.line k).nodes.length):Safe (lineF s k):=by
 have hL:=h.line k hk
 have hsub:(zAk s k).Sublist (s.line k).nodes:=List.filter_sublist
 obtain ⟨f1,f2⟩:=hL.fix hsub hne hlt
 have hln:=fun i=>zMh s hk i
 have hd:decH (Go.Proofs.YtogaigioeohjaaaGreatDoor.lineF s k)=decH s:=by unfold decH;rw [zEv]
 have hold:∀ i,i<s.lines.length->∀ x∈((Go.Proofs.YtogaigioeohjaaaGreatDoor.lineF s k).line i).nodes,∃ n∈(s.line i).nodes,x.id=n.id/\x.log=n.log:=fun i hi x hx=>by
  rw [hln] at hx
  split at hx
  ·rename_i e;subst e
   rw [zKm] at hx
   obtain ⟨n,hn,rfl⟩:=List.mem_map.1 hx
   exact ⟨n,hsub.subset hn,f2 n hn⟩
  ·exact ⟨x,hx,rfl,rfl⟩
 have hn0:∀ i,i<s.lines.length->∃ n∈(s.line i).nodes,(zAp (Go.Proofs.YtogaigioeohjaaaGreatDoor.lineF s k) i).log=n.log:=fun i hi=>by
  have hne':((Go.Proofs.YtogaigioeohjaaaGreatDoor.lineF s k).line i).nodes≠[]:=by
   rw [hln];split
   ·exact f1.ne
   ·exact (h.line i hi).ne
  obtain ⟨n,hn,_,e⟩:=hold i hi _ (List.mem_of_getElem? (zSe hne'))
  exact ⟨n,hn,e⟩
 have hhd:∀ i,((Go.Proofs.YtogaigioeohjaaaGreatDoor.lineF s k).line i).heard=(s.line i).heard:=fun i=>by
  rw [hln];split
  ·rename_i e;rw [e];rfl
  ·rfl
 have hheard:∀ i,i<s.lines.length->zFr (Go.Proofs.YtogaigioeohjaaaGreatDoor.lineF s k) i=zFr s i:=fun i hi=>by
  obtain ⟨n,hn,e⟩:=hn0 i hi
  unfold zFr
  rw [hhd,e]
  exact h.heardAt hi hn
 have hbase:Safe (Go.Proofs.YtogaigioeohjaaaGreatDoor.lineF s k):=by
  refine ⟨by rw [zEv];exact h.ll,h.tl,fun i hi=>?_,fun i hi=>?_,fun m hm h3 i hi x hx e=>?_,fun id i1 i2=>(h.tx id i1 i2).of rfl (zEv s k) hheard h.dec_lt⟩
  ·rw [zEv] at hi
   rw [hln];split
   ·rename_i e;rw [e];exact f1
   ·exact h.line i hi
  ·rw [zEv] at hi
   obtain ⟨n,hn,e⟩:=hn0 i hi
   rw [e]
   exact (h.logs hi hn).of rfl hd
  ·rw [zEv] at hi
   rcases zNv hm with q | q
   ·obtain ⟨n,hn,e1,e2⟩:=hold i hi x hx
    rw [e2]
    exact h.msg m q h3 i hi n hn (by rw [<-e1];exact e)
   ·have:=zQm q;omega
 exact hbase
structure ActG(s s':zAa):Prop where
 safe:Safe s'
 held:Held s'
 fin:zGo s s'
 ll:s'.lines.length=s.lines.length
theorem ActG.refl{s:zAa}(h:Safe s)(hH:Held s):ActG s s:=⟨h,hH,zGo.refl s,rfl⟩
theorem ActG.trans{a b c:zAa}(h:ActG a b)(k:ActG b c):ActG a c:=⟨k.safe,k.held,h.fin.trans k.fin,k.ll.trans h.ll⟩
theorem zBv.toA{s s':zAa}(h:zBv s s'):ActG s s':=⟨h.safe,h.held,h.fin,h.mv.ll⟩
theorem zGo.abort{s:zAa}{id:Nat}(h1:1<=id)(h2:id<=s.txs.length)(ho:(s.tx id).state<3):zGo s (zBh s id):=by
 refine ⟨by rw [zMn];exact Nat.le_refl _,fun j j1 j2 j3=>?_⟩
 by_cases e:j=id
 ·subst e;omega
 ·rw [zIt s (by omega)]
theorem yKq{s:zAa}(h:Safe s){id k:Nat}(h1:1<=id)(h2:id<=s.txs.length)(hk:k<decH s)(hs:(s.tx id).ats.getD k 0=2):(zDl (zAp s k).log 2 (id:Int)).isNone=false:=by
 obtain ⟨c,hc,e1,e2⟩:=(h.tx id h1 h2).sure k hk hs
 cases hp:zDl (zAp s k).log 2 (id:Int) with
 | some i=>rfl
 | none=>exact absurd ⟨e1,e2⟩ (zPg.1 hp c (zSt k c hc))
theorem zLn{s:zAa}(h:Safe s)(hH:Held s){k:Nat}(hk:k<s.lines.length):ActG s (zDt s k)/\zBk s (zDt s k):=by
 unfold zDt
 suffices key:∀ m,m<=s.txs.length->ActG s ((List.range m).foldl (fun h i=>if zOg h k i then zBh h (i+1) else h) s)/\zBk s ((List.range m).foldl (fun h i=>if zOg h k i then zBh h (i+1) else h) s) from key _ (Nat.le_refl _)
 intro m
 induction m with
 | zero=>exact fun _=>⟨ActG.refl h hH,zBk.refl s⟩
 | succ m ih=>
  intro hm
  rw [List.range_succ,List.foldl_append]
  obtain ⟨a,b⟩:=ih (by omega)
  generalize (List.range m).foldl (fun h i=>if zOg h k i then zBh h (i+1) else h) s=S at a b
  show ActG s (if zOg S k m then zBh S (m+1) else S)/\zBk s (if zOg S k m then zBh S (m+1) else S)
  split
  ·rename_i hl
   have hmS:m+1<=S.txs.length:=by rw [b.len];omega
   have hkS:k<S.lines.length:=by rw [b.l];exact hk
   unfold zOg at hl
   simp only [Bool.and_eq_true,Bool.or_eq_true,decide_eq_true_eq] at hl
   obtain ⟨hl1,hl2⟩:=hl
   have hx:=a.safe.tx (m+1) (by omega) hmS
   have hkd:k<decH S:=by
    have:k≠decH S:=fun e=>hl1 (by rw [e];exact hx.dec)
    unfold decH at this ⊢;omega
   have hH':Held (zBh S (m+1)):=a.held.abort (m+1) (by omega) (fun x hx=>by simp at hx)
   rcases hl2 with q | ⟨q,q2⟩
   ·exact ⟨a.trans ⟨a.safe.abort (by omega) hmS q,hH',zGo.abort (by omega) hmS (by omega),by rw [zGl]⟩,b.trans (zBk.abort S _)⟩
   ·have hr:zIx (S.tx (m+1))=false:=by
     apply Classical.byContradiction
     intro hn
     simp only [Bool.not_eq_false] at hn
     have:=zLe.1 hn k
     have:=hx.rng k
     have h2:(S.tx (m+1)).ats.getD k 0=2:=by omega
     have:=yKq a.safe (by omega) hmS hkd h2
     have e:((m+1:Nat):Int)=(m:Int)+1:=by omega
     rw [e,q2] at this;cases this
    exact ⟨a.trans ⟨a.safe.abort2 (by omega) hmS q hr,hH',zGo.abort (by omega) hmS (by omega),by rw [zGl]⟩,b.trans (zBk.abort S _)⟩
  ·exact ⟨a,b⟩
theorem zMe{s:zAa}{k:Nat}(h:¬ ((zAk s k).length=0\/(zAk s k).length=(s.line k).nodes.length)):zAk s k≠[]/\(zAk s k).length<(s.line k).nodes.length:=by
 have:(zAk s k).length<=(s.line k).nodes.length:=List.length_filter_le _ _
 refine ⟨fun e=>h (.inl (by rw [e];rfl)),by omega⟩
theorem zVx{s:zAa}(h:Safe s)(hH:Held s){k:Nat}(hk:k<s.lines.length):ActG s (fixAt s k)/\(fixAt s k).dead=s.dead/\(fixAt s k).net.down=s.net.down/\(fixAt s k).txs.length=s.txs.length/\(∀ i,i≠k->(fixAt s k).line i=s.line i) /\
  (((fixAt s k).line k).nodes=(s.line k).nodes/\((zAk s k).length=0\/(zAk s k).length=(s.line k).nodes.length)\/(∀ n∈((fixAt s k).line k).nodes,zAu s n=true))/\(∀ i,((fixAt s k).line i).heard=(s.line i).heard):=by
 unfold fixAt
 split
 ·rename_i e;exact ⟨ActG.refl h hH,rfl,rfl,rfl,fun _ _=>rfl,.inl ⟨rfl,e⟩,fun _=>rfl⟩
 ·rename_i e
  obtain ⟨e1,e2⟩:=zMe e
  have hF:Safe (lineF s k):=h.lineF hk e1 e2
  have hFH:Held (lineF s k):=hH.lines rfl rfl
  obtain ⟨a,b⟩:=zLn hF hFH (k:=k) (by rw [zEv];exact hk)
  have hA:ActG s (lineF s k):=⟨hF,hFH,zGo.of rfl,zEv s k⟩
  have hl:∀ i,(zDt (lineF s k) k).line i=(lineF s k).line i:=fun i=>by unfold zAa.line;rw [b.l]
  refine ⟨hA.trans a,b.d,by show (zDt (lineF s k) k).net.down=_;rw [b.net];exact zMa _ _,b.len,fun i hi=>?_,.inr fun n hn=>?_,fun i=>?_⟩
  ·show (zDt (lineF s k) k).line i=_
   rw [hl,zMh s hk,if_neg hi]
  ·have hn':n∈((zDt (lineF s k) k).line k).nodes:=hn
   rw [hl,zMh s hk,if_pos rfl,zKm] at hn'
   obtain ⟨x,hx,rfl⟩:=List.mem_map.1 hn'
   have hxl:zAu s x=true:=(List.mem_filter.1 hx).2
   have:=((h.line k hk).fix (ns:=zAk s k) List.filter_sublist e1 e2).2 x hx
   unfold zAu at hxl ⊢
   rw [this.1];exact hxl
  ·show ((zDt (lineF s k) k).line i).heard=_
   rw [hl,zMh s hk]
   split
   ·rename_i q;rw [q];rfl
   ·rfl
theorem zIr{s:zAa}(h:Safe s)(hH:Held s):∀ m,m<=s.lines.length->ActG s ((List.range m).foldl fixAt s)/\((List.range m).foldl fixAt s).dead=s.dead/\((List.range m).foldl fixAt s).net.down=s.net.down/\((List.range m).foldl fixAt s).txs.length=s.txs.length/\(∀ i,m<=i->((List.range m).foldl fixAt s).line i=s.line i) /\
  (∀ i,i<m->(((List.range m).foldl fixAt s).line i).nodes=(s.line i).nodes/\((zAk s i).length=0\/(zAk s i).length=(s.line i).nodes.length)\/(∀ n∈(((List.range m).foldl fixAt s).line i).nodes,zAu s n=true))/\(∀ i,(((List.range m).foldl fixAt s).line i).heard=(s.line i).heard):=by
 intro m
 induction m with
 | zero=>exact fun _=>⟨ActG.refl h hH,rfl,rfl,rfl,fun _ _=>rfl,fun i hi=>by omega,fun _=>rfl⟩
 | succ m ih=>
  intro hm
  rw [List.range_succ,List.foldl_append]
  obtain ⟨a,b,b2,c,d,e,f⟩:=ih (by omega)
  generalize (List.range m).foldl fixAt s=S at a b b2 c d e f
  show ActG s (fixAt S m)/\(fixAt S m).dead=s.dead/\(fixAt S m).net.down=s.net.down/\(fixAt S m).txs.length=s.txs.length/\(∀ i,m+1<=i->(fixAt S m).line i=s.line i)/\(∀ i,i<m+1->((fixAt S m).line i).nodes=(s.line i).nodes/\((zAk s i).length=0\/(zAk s i).length=(s.line i).nodes.length)\/(∀ n∈((fixAt S m).line i).nodes,zAu s n=true))/\(∀ i,((fixAt S m).line i).heard=(s.line i).heard)
  obtain ⟨a',b',b2',c',d',e',f'⟩:=zVx a.safe a.held (k:=m) (by rw [a.ll];omega)
  have hlv:∀ n,zAu S n=zAu s n:=fun n=>by unfold zAu;rw [b]
  refine ⟨a.trans a',b'.trans b,b2'.trans b2,c'.trans c,fun i hi=>by rw [d' i (by omega),d i (by omega)],fun i hi=>?_,fun i=>(f' i).trans (f i)⟩
  by_cases q:i=m
  ·subst q
   have hli:zAk S i=zAk s i:=by unfold zAk;rw [d i (Nat.le_refl _)];congr 1;funext n;exact hlv n
   rw [d i (Nat.le_refl _),hli] at e'
   rcases e' with e' | e'
   ·exact .inl e'
   ·exact .inr fun n hn=>by rw [<-hlv];exact e' n hn
  ·rw [d' i q];exact e i (by omega)
theorem yQz{s:zAa}(h:Safe s)(hH:Held s):ActG s (fixH s):=by
 unfold fixH
 obtain ⟨a,-⟩:=zIr h hH s.lines.length (Nat.le_refl _)
 obtain ⟨b,c,_⟩:=zDv a.safe
 have:=c.toS b a.held
 exact (a.trans this.toA).trans (zGa b this.held).1.toA
theorem yRg{s:NetS}{id:Int}{m:MsgD}(h:m∈(yBu s id).way):m∈s.way:=(List.mem_filter.1 h).1
theorem Safe.dead{s:zAa}(h:Safe s)(d:List Int):Safe { s with dead:=d }:=
 h.txs (s':={ s with dead:=d }) rfl rfl h.tl (fun k c _ _ q=>q.same rfl rfl rfl) (fun id h1 h2=>(h.tx id h1 h2).same rfl rfl)
theorem yBp{s:zAa}(h:Safe s)(hH:Held s)(id:Int):ActG s (zEo s id).1:=by
 unfold zEo
 split
 ·exact ActG.refl h hH
 ·exact ⟨(h.way (net:=yBu s.net id) fun m hm=>yRg hm).dead _,hH.lines rfl rfl,zGo.of rfl,rfl⟩
theorem yAn{s:zAa}(h:Safe s)(hH:Held s)(k:Int):ActG s (zEn s k).1:=by
 unfold zEn
 split
 ·exact ⟨h.way (net:=yQg s.net k.toNat) fun m hm=>List.mem_of_mem_eraseIdx hm,hH.lines rfl rfl,zGo.of rfl,rfl⟩
 ·exact ActG.refl h hH
theorem yBt{s:zAa}(h:Safe s)(hH:Held s)(id:Int):ActG s (zEy s id).1:=by
 unfold zEy
 split
 ·exact ActG.refl h hH
 ·rename_i e
  obtain ⟨i,rfl,h1,h2,ho⟩:=zEi (by simpa using e)
  rw [Int.toNat_natCast]
  exact ⟨h.abort h1 h2 ho,hH.abort i h1 (fun x hx=>by simp at hx),zGo.abort h1 h2 (by omega),by rw [zGl]⟩
def Has(k:KeyS)(x:Int):Prop:=∃ c∈k.held,c.tx=x
theorem zXq{x:Int}:∀ (q held kept:List ClmD),zFj held->(∃ c∈held,c.tx=x)->∃ c∈(zDh held kept q).1,c.tx=x
 | [],held,kept,_,h=>h
 | c :: q,held,kept,he,h=>by
  unfold zDh
  split
  ·refine zXq q (zDg held c) kept (zHf he c) ?_
   obtain ⟨d,hd,e⟩:=h
   by_cases e2:d.tx=c.tx
   ·exact ⟨c,(zCa he c c).2 (.inl rfl),by omega⟩
   ·exact ⟨d,(zCa he c d).2 (.inr ⟨hd,e2⟩),e⟩
  ·exact zXq q held (kept++[c]) he h
theorem Has.rel{s:Tab}{k:ByteArray}{x t:Int}(hk:zHg (s k))(h:Has (s k) x)(hne:x≠t):Has (relN s t k) x:=by
 unfold relN
 split
 ·obtain ⟨c,hc,e⟩:=h
  exact zXq _ _ _ (zEx hk.held t) ⟨c,zBq.2 ⟨hc,by omega⟩,e⟩
 ·exact h
theorem Has.wound{x:Int}{key:ByteArray}(hx:1<=x):∀ (ids:List Int) {X:List Int} {s:zAa},zDz X s->(∀ i∈ids,1<=i)->Has (s.keys key) x->(x∉ids\/(s.tx x.toNat).state≠1)->Has ((zBz s ids).keys key) x
 | [],X,s,_,_,h,_=>h
 | i :: ids,X,s,hH,hi,h,hn=>by
  have hi1:=hi i (by simp)
  have hiH:=hH.wound1 (i:=i) hi1
  show Has ((zBz (Go.Proofs.YtogaigioeohjaaaGreatDoor.wound1 s i) ids).keys key) x
  have hstep:Has ((Go.Proofs.YtogaigioeohjaaaGreatDoor.wound1 s i).keys key) x/\(x∉ids\/((Go.Proofs.YtogaigioeohjaaaGreatDoor.wound1 s i).tx x.toNat).state≠1):=by
   unfold Go.Proofs.YtogaigioeohjaaaGreatDoor.wound1
   split
   ·rename_i e
    have hne:x≠i:=fun q=>by
     rcases hn with hn | hn
     ·exact hn (by simp [q])
     ·rw [q] at hn;exact hn e
    refine ⟨?_,?_⟩
    ·rw [zWo]
     exact Has.rel (hH.apart key).ok h (by omega)
    ·rw [zIt s (by omega)]
     exact hn.imp (fun q=>fun q2=>q (by simp [q2])) id
   ·exact ⟨h,hn.imp (fun q=>fun q2=>q (by simp [q2])) id⟩
  exact Has.wound hx ids hiH (fun j hj=>hi j (by simp [hj])) hstep.1 hstep.2
theorem yTd{W:List Int}{k:KeyS}(h:zJi W k){x id:Int}(hx:Has k x)(hne:x≠id):zCw k.held id<2:=by
 apply Classical.byContradiction
 intro hn
 have h0:zCw k.held id≠0:=by omega
 have hz:=fun hall=>h0 ((zJt h.ok.held h.ok.h0).2 hall)
 have:∃ c∈k.held,c.tx=id:=Classical.byContradiction fun q=>hz fun c hc e=>q ⟨c,hc,e⟩
 obtain ⟨c,hc,e⟩:=this
 have hm:=zXx h.ok.held hc
 rw [e] at hm
 obtain ⟨d,hd,e2⟩:=hx
 have:=h.alone c hc d hd
 unfold zCj at this
 have h2:c.mode=2:=by rcases h.ok.hmode c hc with q | q <;> omega
 rw [h2] at this
 have hne':c.tx≠d.tx:=by omega
 simp [hne'] at this
theorem yHu{s:zAa}(hS:Safe s)(hH:Held s){id:Nat}(h1:1<=id)(h2:id<=s.txs.length)(ho:(s.tx id).state=1)(key:ByteArray)(hks:key.size<=20)(hy:zEc s id key=false):(zBw s id key 2).2≠0:=by
 unfold zEc at hy
 simp only [Bool.not_eq_false',List.any_eq_true,Bool.or_eq_true,decide_eq_true_eq] at hy
 obtain ⟨o,hom,hoc⟩:=hy
 have hin:=zKg hom
 have hne:=yAe hom
 have hhas:Has (s.keys key) o:=by
  unfold zDa at hom
  simp only [List.mem_filter,Bool.and_eq_true,decide_eq_true_eq] at hom
  have:=hom.2.2
  have hz:=fun hall=>this ((zJt (hH.apart key).ok.held (hH.apart key).ok.h0).2 hall)
  exact Classical.byContradiction fun q=>hz fun c hc e=>q ⟨c,hc,e⟩
 have hy':zEc (zAw s id key 2).1 id key=false\/(zAw s id key 2).2.2≠4:=by
  by_cases e:(zAw s id key 2).2.2=4
  ·left
   have hk:(zCx (s.keys key) ⟨(id:Int),2⟩).1=s.keys key:=by
    have e':(zCx (s.keys key) ⟨(id:Int),2⟩).2.2.2=4:=e
    revert e'
    unfold zCx
    split
    ·simp
    split
    ·simp
    split
    ·simp
    split
    ·simp
    ·simp
   have hkk:(zAw s id key 2).1.keys key=s.keys key:=by
    show updK s.keys key _ key=_
    rw [zFu,hk]
   unfold zEc
   simp only [Bool.not_eq_false',List.any_eq_true,Bool.or_eq_true,decide_eq_true_eq]
   refine ⟨o,?_,hoc⟩
   unfold zDa at hom ⊢
   rw [hkk]
   exact hom
  ·exact .inr e
 have hl2:zBs s id key 2=zAw s id key 2:=by
  unfold zBs
  simp only
  rw [if_neg (fun q=>hy'.elim (fun e=>absurd q.2 (by rw [e];simp)) (fun e=>e q.1))]
 unfold zBw
 simp only
 rw [hl2]
 split
 ·simp
 split
 ·simp
 have hL:=zVk hS hH h1 h2 ho key hks (mode:=2) (.inr rfl)
 rw [hl2] at hL
 have hlt:zCw ((zBz (zIs (zAw s id key 2).1 (id:Int).toNat (zAv (zAw s id key 2).1 key)) (zAw s id key 2).2.1).keys key).held id<2:=by
  have hC:=hL.held.came (k:=zAv (zAw s id key 2).1 key) h1 h2
  have hin2:∀ i∈(zAw s id key 2).2.1,1<=i/\i<=((zIs (zAw s id key 2).1 id (zAv (zAw s id key 2).1 key)).txs.length:Int):=fun i hi=>by
   show 1<=i/\i<=((setTx (zAw s id key 2).1 id _).txs.length:Int)
   rw [zBd];exact (hL.wd i hi).2
  have hh:Has ((zIs (zAw s id key 2).1 id (zAv (zAw s id key 2).1 key)).keys key) o:=by
   show Has (updK s.keys key (zCx (s.keys key) ⟨(id:Int),2⟩).1 key) o
   rw [zFu]
   obtain ⟨c,hc,e⟩:=hhas
   have hko:=(hH.apart key).ok
   unfold zCx
   split
   ·exact ⟨c,hc,e⟩
   split
   ·exact ⟨c,hc,e⟩
   split
   ·exact ⟨c,(zCa hko.held _ c).2 (.inr ⟨hc,by show c.tx≠(id:Int);omega⟩),e⟩
   split
   ·exact ⟨c,hc,e⟩
   ·exact ⟨c,hc,e⟩
  rw [Int.toNat_natCast]
  have hw:=Has.wound (key:=key) hin.1 (zAw s id key 2).2.1 hC (fun i hi=>(hin2 i hi).1) hh (by
   rcases hoc with q | q
   ·exact .inl fun q2=>by have:=(hL.wd _ q2).1;omega
   ·right
    show ((setTx (zAw s id key 2).1 id _).tx o.toNat).state≠1
    rw [zFb _ _ (by omega)]
    exact q)
  have hA:=zDz.woundAll (ids:=(zAw s id key 2).2.1) (X:=[]) (by simpa using hC) hin2
  exact yTd (hA.apart key) hw hne
 rw [if_pos hlt];simp
end Go.Proofs.YtogaigioeohjaaaGreatDoor
