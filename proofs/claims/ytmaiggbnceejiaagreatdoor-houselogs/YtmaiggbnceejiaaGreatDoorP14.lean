import Derived.Test.YtmaiggbnceejiaaGreatDoorP13
import Derived.Maps.StringElems
import Derived.Maps.RangeWalk
import Derived.ChangeMaps5
set_option linter.unusedVariables false
set_option maxRecDepth 100000
set_option maxHeartbeats 16000000
namespace Go.Proofs.YtmaiggbnceejiaaGreatDoor
open Go.RowKit Go.Lib Go.Maps
def okQ(k:ByteArray):Prop:=k.size<=maxLen
def hdrQ:Value->Option (DataW Unit)
 | .slice none n c=>if n=0/\c=0 then some .nil else none
 | .slice (some a) n c=>if a.off=0/\a.spot=none then some (.agg [.lit (.int .i64 a.block),.lit (.int .i64 n),.lit (.int .i64 c)]) else none
 | _=>none
def encQ(v:Value):DataW Unit:=(hdrQ v).getD .nil
def zGc(v:Value):Prop:=v=.slice none 0 0\/∃ g n c,v=.slice (some ⟨g,0,none⟩) n c
theorem yDd{v:Value}(h:zGc v):hdrQ v=some (encQ v):=by
 rcases h with rfl | ⟨g,n,c,rfl⟩ <;> simp [hdrQ,encQ]
theorem yEt{v:Value}{y:DataW Unit}(h:hdrQ v=some y):zGc v/\y=encQ v:=by
 have hh:zGc v:=by
  unfold hdrQ at h
  split at h
  ·rename_i n c
   split at h
   ·rename_i e;obtain ⟨rfl,rfl⟩:=e;exact .inl rfl
   ·cases h
  ·rename_i a n c
   split at h
   ·rename_i e
    obtain ⟨b,o,s⟩:=a
    simp at e
    obtain ⟨rfl,rfl⟩:=e
    exact .inr ⟨b,n,c,rfl⟩
   ·cases h
  ·cases h
 refine ⟨hh,?_⟩
 rw [yDd hh] at h
 cases h
 rfl
theorem yEy{v u:Value}(hv:zGc v)(hu:zGc u)(h:encQ v=encQ u):v=u:=by
 rcases hv with rfl | ⟨g,n,c,rfl⟩ <;> rcases hu with rfl | ⟨g',n',c',rfl⟩
 ·rfl
 ·simp [encQ,hdrQ] at h
 ·simp [encQ,hdrQ] at h
 ·simp [encQ,hdrQ] at h
  obtain ⟨h1,h2,h3⟩:=h
  have:g=g':=by omega
  have:n=n':=by omega
  have:c=c':=by omega
  subst_vars
  rfl
theorem zOh{w:World}{B:Nat}{e:TypeId}{sz:Nat}{v:Value}{n:Nat}{xs:List Value}(h:w.ownsRow B e sz v n xs):zGc v:=by
 rcases h.2 with ⟨rfl,_⟩ | ⟨g,cap,cur,rfl,_⟩
 ·exact .inl rfl
 ·exact .inr ⟨g,n,cap,rfl⟩
def zKk:Value->Option (DataW Unit × List MemPlace)
 | .agg xs=>match xs.toList with
  | [h,v]=>match hdrQ h,hdrQ v with
   | some a,some b=>some (.agg [a,b],[])
   | _,_=>none
  | _=>none
 | _=>none
def encK(h v:Value):DataW Unit:=.agg [encQ h,encQ v]
def zWd:DataW Unit:=.agg [.nil,.nil]
theorem yFa{h v:Value}(hh:zGc h)(hv:zGc v):zKk (.agg #[h,v])=some (encK h v,[]):=by
 simp [zKk,yDd hh,yDd hv,encK]
theorem yAu{x:Value}{y:DataW Unit × List MemPlace}(h:zKk x=some y):∃ a b,x=.agg #[a,b]/\zGc a/\zGc b/\y.1=encK a b:=by
 unfold zKk at h
 split at h
 ·rename_i xs
  split at h
  ·rename_i a b e
   split at h
   ·rename_i p q ha hb
    obtain ⟨h1,rfl⟩:=yEt ha
    obtain ⟨h2,rfl⟩:=yEt hb
    cases h
    refine ⟨a,b,?_,h1,h2,rfl⟩
    have:xs=#[a,b]:=by apply Array.ext';simpa using e
    rw [this]
   ·cases h
  ·cases h
 ·cases h
theorem yEz{h v h' v':Value}(a:zGc h)(b:zGc v)(a':zGc h')(b':zGc v')(e:encK h v=encK h' v'):h=h'/\v=v':=by
 simp [encK] at e
 exact ⟨yEy a a' e.1,yEy b b' e.2⟩
theorem zMp{a b:ByteArray}(h:a.data.toList=b.data.toList):a=b:=by
 cases a;cases b;simp at h;simp;exact h
def keyQ(k:ByteArray):Lit:=.string k.data.toList
theorem zXo{a b:ByteArray}(h:keyQ a=keyQ b):a=b:=zMp (by simpa [keyQ] using h)
theorem zRc(k:ByteArray):WideAt.IsKeyLit (keyQ k):=by simp [WideAt.IsKeyLit,keyQ]
structure TbM where
 b:Nat
 pre:List Value
 post:List Value
 t:TypeId
 m:Option Nat
 n:Nat
 hd:ByteArray->Bool->Value
def TbM.own(q:TbM)(x:Nat):Prop:=q.m=some x\/∃ k i,okQ k/\(q.hd k i).ownBlock=some x
def KeyS.list(k:KeyS)(i:Bool):List ClmD:=if i then k.held else k.waits
def MapQ(w:World)(B:Nat)(m:Option Nat)(n:Nat)(hd:ByteArray->Bool->Value)(s:Tab):Prop:=match m with
 | none=>∀ k,okQ k->(∀ i,hd k i=.slice none 0 0)/\(s k).bare
 | some g=>B<=g/\∃ D,w.ownsMap Tryz.prog 9 zKk g n D/\∀ k,okQ k->D.atKey (keyQ k) zWd=encK (hd k true) (hd k false)/\(Maps.has D (keyQ k)=true↔¬ (s k).bare)
structure TbX(w:World)(B N:Nat)(q:TbM)(s:Tab)(no:ByteArray->Prop):Prop where
 blk:Blk w q.b (q.pre++.map q.m :: q.post) q.t
 bt:q.t≠170
 map:MapQ w B q.m q.n q.hd s
 hdr:∀ k i,okQ k->zGc (q.hd k i)
 rows:∀ k i,okQ k->¬ no k->RowK w B (q.hd k i) ((s k).list i)
 apart:∀ k k' i i' x,okQ k->okQ k'->(q.hd k i).ownBlock=some x->(q.hd k' i').ownBlock=some x->k=k'/\i=i'
 ok:∀ k,okQ k->zGz (s k)
 few:∀ k,okQ k->(s k).held.length+(s k).waits.length<=N
def noKey(_:ByteArray):Prop:=False
abbrev TbP(w:World)(B N:Nat)(q:TbM)(s:Tab):Prop:=TbX w B N q s noKey
theorem MapQ.mod{G:Nat->Prop}{w w':World}{B:Nat}{m:Option Nat}{n:Nat}{hd:ByteArray->Bool->Value}{s:Tab}(h:MapQ w B m n hd s)(hm:Mod G w w')(hG:∀ x,m=some x->¬ G x):MapQ w' B m n hd s:=by
 cases m with
 | none=>exact h
 | some g=>
  obtain ⟨h0,D,h1,h2⟩:=h
  have hlt:=h1.lt
  obtain ⟨es,clock,hb,r⟩:=h1
  exact ⟨h0,D,⟨es,clock,(hm.block g hlt (hG g rfl)).trans hb,r⟩,h2⟩
theorem TbX.mod{G:Nat->Prop}{w w':World}{B N:Nat}{q:TbM}{s:Tab}{no:ByteArray->Prop}(h:TbX w B N q s no)(hm:Mod G w w')(hb:¬ G q.b)(hG:∀ x,q.own x->¬ G x):TbX w' B N q s no:=
 ⟨h.blk.mod hm hb,h.bt,h.map.mod hm (fun x hx=>hG x (.inl hx)),h.hdr,fun k i hk hn=>(h.rows k i hk hn).mod hm (fun x hx=>hG x (.inr ⟨k,i,hk,hx⟩)),h.apart,h.ok,h.few⟩
theorem TbX.old{w:World}{B N:Nat}{q:TbM}{s:Tab}{no:ByteArray->Prop}(h:TbX w B N q s no){k:ByteArray}{i:Bool}{x:Nat}(hk:okQ k)(hno:¬ no k)(hx:(q.hd k i).ownBlock=some x):B<=x/\x<w.heap.size/\∃ cur,w.heap[x]?=some (.cells cur 170 (0,0)):=zAr (h.rows k i hk hno) hx
theorem TbX.lt{w:World}{B N:Nat}{q:TbM}{s:Tab}(h:TbP w B N q s){x:Nat}(hx:q.own x):B<=x/\x<w.heap.size:=by
 rcases hx with hx | ⟨k,i,hk,hx⟩
 ·have:=h.map
  rw [hx] at this
  obtain ⟨h0,D,h1,_⟩:=this
  exact ⟨h0,h1.lt⟩
 ·have:=h.old hk id hx
  exact ⟨this.1,this.2.1⟩
theorem TbX.row_ne{w:World}{B N:Nat}{q:TbM}{s:Tab}{no:ByteArray->Prop}(h:TbX w B N q s no){k:ByteArray}{i:Bool}(hk:okQ k)(hno:¬ no k){x:Nat}(hx:(q.hd k i).ownBlock=some x):x≠q.b/\q.m≠some x:=by
 obtain ⟨_,_,cur,hc⟩:=h.old hk hno hx
 refine ⟨fun e=>?_,fun e=>?_⟩
 ·subst e
  have:=h.blk
  unfold Blk at this
  rw [hc] at this
  simp at this
  exact h.bt this.2.symm
 ·have hm:=h.map
  rw [e] at hm
  obtain ⟨_,D,⟨es,clock,hb,_⟩,_⟩:=hm
  rw [hc] at hb
  cases hb
theorem TbX.map_ne{w:World}{B N:Nat}{q:TbM}{s:Tab}{no:ByteArray->Prop}(h:TbX w B N q s no):q.m≠some q.b:=fun e=>by
 have hm:=h.map
 rw [e] at hm
 obtain ⟨_,D,⟨es,clock,hb,_⟩,_⟩:=hm
 have:=h.blk
 unfold Blk at this
 rw [this] at hb
 cases hb
theorem TbX.cell{w:World}{B N:Nat}{q:TbM}{s:Tab}{no:ByteArray->Prop}(h:TbX w B N q s no):w.cell? ⟨q.b,q.pre.length,none⟩=some (.map q.m):=h.blk.cell _ (by simp)
theorem yGw:Keyed Tryz.prog 9:=string_keyed Tryz.underlying9
theorem yMi(w:World):(zeroValue 168).run Tryz.prog w=.ok (.agg #[.slice none 0 0,.slice none 0 0]) w:=by kernel_rfl
theorem yNx(k:ByteArray)(w:World):(Instr.lookup 79 (.map none) (.string k) false).run Tryz.prog w=.ok (.agg #[.slice none 0 0,.slice none 0 0]) w:=by kernel_rfl
theorem TbX.look{w:World}{B N:Nat}{q:TbM}{s:Tab}{no:ByteArray->Prop}(h:TbX w B N q s no){k:ByteArray}(hk:okQ k):(Instr.lookup 79 (.map q.m) (.string k) false).run Tryz.prog w=.ok (.agg #[q.hd k true,q.hd k false]) w:=by
 have hm:=h.map
 cases hq:q.m with
 | none=>
  rw [hq] at hm
  rw [(hm k hk).1 true,(hm k hk).1 false]
  exact yNx k w
 | some g=>
  rw [hq] at hm
  obtain ⟨_,D,h1,h2⟩:=hm
  obtain ⟨v,ps,hrun,hv⟩:=h1.lookup yGw Tryz.underlying79 (yMi w) (zd:=zWd) (zp:=[]) (yFa (.inl rfl) (.inl rfl)) (Go.WideMaps.keyOf_string_mk Tryz.underlying9 hk)
  obtain ⟨a,b,rfl,e1,e2,e3⟩:=yAu hv
  have e4:encK a b=encK (q.hd k true) (q.hd k false):=by rw [<-e3];exact (h2 k hk).1
  obtain ⟨rfl,rfl⟩:=yEz e1 e2 (h.hdr k true hk) (h.hdr k false hk) e4
  exact hrun
theorem TbX.less{w:World}{B N:Nat}{q:TbM}{s:Tab}(h:TbP w B N q s)(no:ByteArray->Prop):TbX w B N q s no:=
 ⟨h.blk,h.bt,h.map,h.hdr,fun k i hk _=>h.rows k i hk id,h.apart,h.ok,h.few⟩
theorem TbX.turn{w w':World}{B N:Nat}{q:TbM}{s:Tab}{name:ByteArray}{G:Nat->Prop}(h:TbX w B N q s (·=name))(hm:Mod G w w')(hb:¬ G q.b)(hmm:∀ x,q.m=some x->¬ G x)(hG:∀ k i x,okQ k->k≠name->(q.hd k i).ownBlock=some x->¬ G x):TbX w' B N q s (·=name):=
 ⟨h.blk.mod hm hb,h.bt,h.map.mod hm hmm,h.hdr,fun k i hk hno=>(h.rows k i hk hno).mod hm (fun x hx=>hG k i x hk hno hx),h.apart,h.ok,h.few⟩
def zYj(h:ByteArray->Bool->Value)(k:ByteArray)(v:Bool->Value):ByteArray->Bool->Value:=fun x=>if x=k then v else h x
theorem zFp(h:ByteArray->Bool->Value)(k:ByteArray)(v:Bool->Value):zYj h k v k=v:=by unfold zYj;rw [if_pos rfl]
theorem zFo{h:ByteArray->Bool->Value}{k x:ByteArray}{v:Bool->Value}(e:x≠k):zYj h k v x=h x:=by unfold zYj;rw [if_neg e]
theorem zEr(s:Tab)(k:ByteArray)(a:KeyS):updK s k a k=a:=by unfold updK;rw [if_pos rfl]
theorem zFn{s:Tab}{k x:ByteArray}{a:KeyS}(e:x≠k):updK s k a x=s x:=by unfold updK;rw [if_neg e]
structure zUc(w:World)(B:Nat)(q:TbM)(name:ByteArray)(v:Bool->Value)(k':KeyS):Prop where
 row:∀ i,RowK w B (v i) (k'.list i)
 ne:∀ x,(v true).ownBlock=some x->(v false).ownBlock≠some x
 out:∀ k i j x,okQ k->k≠name->(q.hd k i).ownBlock=some x->(v j).ownBlock≠some x
structure yDv(w w':World)(B N:Nat)(q q':TbM)(s:Tab)(name:ByteArray)(v:Bool->Value)(k':KeyS):Prop where
 tb:TbP w' B N q' (updK s name k')
 b:q'.b=q.b
 pre:q'.pre=q.pre
 post:q'.post=q.post
 t:q'.t=q.t
 n1:q'.n<=q.n+1
 n0:¬ (s name).bare->q'.n<=q.n
 md:Mod (fun x=>x=q.b\/q.m=some x) w w'
 own:∀ x,q'.own x->q.own x\/w.heap.size<=x\/∃ i,(v i).ownBlock=some x
theorem zSh{w w':World}{B N N':Nat}{q:TbM}{s:Tab}{name:ByteArray}{v:Bool->Value}{k':KeyS}{m:Option Nat}{n:Nat}{G:Nat->Prop}(h:TbX w B N q s (·=name))(hn:okQ name)(hk:zUc w B q name v k')(hok:zGz k')(hN:k'.held.length+k'.waits.length<=N')(hNN:N<=N')
  (hm:Mod G w w') (hG:∀ k i x,okQ k->(zYj q.hd name v k i).ownBlock=some x->¬ G x) (hb:Blk w' q.b (q.pre++.map m :: q.post) q.t) (hmap:MapQ w' B m n (zYj q.hd name v) (updK s name k')) :
  TbP w' B N' { q with m:=m,n:=n,hd:=zYj q.hd name v } (updK s name k'):=by
 have hrow:∀ k i,okQ k->RowK w B (zYj q.hd name v k i) ((updK s name k' k).list i):=fun k i hk2=>by
  by_cases e:k=name
  ·subst e;rw [zFp,zEr];exact hk.row i
  ·rw [zFo e,zFn e];exact h.rows k i hk2 e
 refine ⟨hb,h.bt,hmap,fun k i hk2=>zOh (hrow k i hk2),fun k i hk2 _=>(hrow k i hk2).mod hm (fun x hx=>hG k i x hk2 hx),fun k k2 i i2 x hk1 hk2 h1 h2=>?_,fun k hk2=>?_,fun k hk2=>?_⟩
 ·simp only at h1 h2
  by_cases e1:k=name
  ·by_cases e2:k2=name
   ·subst e1
    refine ⟨e2.symm,?_⟩
    subst e2
    rw [zFp] at h1 h2
    cases i <;> cases i2
    ·rfl
    ·exact absurd h1 (hk.ne x h2)
    ·exact absurd h2 (hk.ne x h1)
    ·rfl
   ·subst e1
    rw [zFp] at h1
    rw [zFo e2] at h2
    exact absurd h1 (hk.out k2 i2 i x hk2 e2 h2)
  ·rw [zFo e1] at h1
   by_cases e2:k2=name
   ·subst e2
    rw [zFp] at h2
    exact absurd h2 (hk.out k i i2 x hk1 e1 h1)
   ·rw [zFo e2] at h2
    exact h.apart k k2 i i2 x hk1 hk2 h1 h2
 ·by_cases e:k=name
  ·rw [e,zEr];exact hok
  ·rw [zFn e];exact h.ok k hk2
 ·by_cases e:k=name
  ·rw [e,zEr];exact hN
  ·rw [zFn e];exact Nat.le_trans (h.few k hk2) hNN
theorem yEs(w:World)(B:Nat)(q:TbM)(name:ByteArray):zUc w B q name (fun _=>.slice none 0 0) ⟨[],[]⟩:=
 ⟨fun i=>by cases i <;> exact World.ownsRow_nil _ _ _ _,fun x hx=>by simp [Value.ownBlock] at hx,fun k i j x _ _ _=>by simp [Value.ownBlock]⟩
theorem yLr{k:KeyS}(h:k.bare):k=⟨[],[]⟩:=by cases k;obtain ⟨h1,h2⟩:=h;simp at h1 h2;rw [h1,h2]
theorem yKl{w w':World}{B N N':Nat}{q:TbM}{s:Tab}{name:ByteArray}{v:Bool->Value}{k':KeyS}(h:TbX w B N q s (·=name))(hn:okQ name)(hbare:k'.bare)(hNN:N<=N')(hm:Mod zAb w w')(hq:q.m=none) :
  ∃ q',yDv w w' B N' q q' s name v k':=by
 have hb:=yLr hbare
 subst hb
 have hmap:=h.map
 rw [hq] at hmap
 refine ⟨_,⟨zSh (m:=none) (n:=q.n) h hn (yEs w B q name) zGz.nil (by simp) hNN hm (fun _ _ _ _ _=>id) (by have:=h.blk.mod hm id;rw [hq] at this;exact this) (fun k hk=>?_),rfl,rfl,rfl,rfl,by show q.n<=q.n+1;omega,fun _=>Nat.le_refl _,hm.mono (fun _ _ e=>e.elim),fun x hx=>?_⟩⟩
 ·by_cases e:k=name
  ·subst e;rw [zFp,zEr];exact ⟨fun _=>rfl,rfl,rfl⟩
  ·rw [zFo e,zFn e];exact hmap k hk
 ·rcases hx with hx | ⟨k,i,hk,hx⟩
  ·cases hx
  ·simp only at hx
   by_cases e:k=name
   ·subst e;rw [zFp] at hx;simp [Value.ownBlock] at hx
   ·rw [zFo e] at hx;exact .inl (.inr ⟨k,i,hk,hx⟩)
theorem zXd{w:World}{g n:Nat}{D:DataW Unit}(h:w.ownsMap Tryz.prog 9 zKk g n D):w.ownsMap Tryz.prog 9 zKk g (Maps.size D) D:=by
 obtain ⟨es,clock,hb,F,_,rfl⟩:=h
 exact ⟨es,clock,hb,F,by simp [Maps.size,length_sorted],rfl⟩
theorem yOg{w w1 w':World}{B N N' g:Nat}{q:TbM}{s:Tab}{name:ByteArray}{v:Bool->Value}{k':KeyS}{D:DataW Unit}(h:TbX w B N q s (·=name))(hn:okQ name)(hbare:k'.bare)(hNN:N<=N')(hm1:Mod zAb w w1)(hq:q.m=some g)(hBg:B<=g)
  (h2:∀ k,okQ k->D.atKey (keyQ k) zWd=encK (q.hd k true) (q.hd k false)/\(Maps.has D (keyQ k)=true↔¬ (s k).bare)) (hown:w'.ownsMap Tryz.prog 9 zKk g q.n (D.del (keyQ name))) (hm:Mod (zAc g) w1 w') :
  ∃ q',yDv w w' B N' q q' s name v k':=by
 have hb:=yLr hbare
 subst hb
 have hmo:Mod (zAc g) w w':=(hm1.mono (fun _ _ e=>e.elim)).trans hm
 refine ⟨_,⟨zSh (m:=some g) (n:=q.n) h hn (yEs w B q name) zGz.nil (by simp) hNN hmo (fun k i x hk hx e=>?_) ?_ ⟨hBg,_,hown,fun k hk=>?_⟩,rfl,rfl,rfl,rfl,by show q.n<=q.n+1;omega,fun _=>Nat.le_refl _,hmo.mono (fun x _ e=>.inr (by simp only [zAc] at e;rw [hq,e])),fun x hx=>?_⟩⟩
 ·simp only [zAc] at e
  by_cases e1:k=name
  ·subst e1;rw [zFp] at hx;simp [Value.ownBlock] at hx
  ·rw [zFo e1] at hx;exact (h.row_ne hk e1 hx).2 (by rw [hq,e])
 ·have:=h.blk.mod hmo (fun e=>by simp only [zAc] at e;exact h.map_ne (by rw [hq,e]))
  rw [hq] at this
  exact this
 ·by_cases e:k=name
  ·subst e
   rw [zFp,zEr,atKey_del_same,has_del_same]
   refine ⟨rfl,?_⟩
   simp [KeyS.bare]
  ·have hne:keyQ k≠keyQ name:=fun e2=>e (zXo e2)
   rw [zFo e,zFn e,atKey_del_other hne,has_del_other hne]
   exact h2 k hk
 ·rcases hx with hx | ⟨k,i,hk,hx⟩
  ·exact .inl (.inl (by rw [hq];exact hx))
  ·simp only at hx
   by_cases e:k=name
   ·subst e;rw [zFp] at hx;simp [Value.ownBlock] at hx
   ·rw [zFo e] at hx;exact .inl (.inr ⟨k,i,hk,hx⟩)
theorem yOe{w:World}{B N:Nat}{q:TbM}{s:Tab}{name:ByteArray}(h:TbX w B N q s (·=name))(hB:B<=w.heap.size)(hm:q.m=none) :
  TbX ((w.setCell ⟨q.b,q.pre.length,none⟩ (.map (some w.heap.size))).alloc (.map #[] 0)) B N { q with m:=some w.heap.size,n:=0 } s (·=name)/\Mod (zAc q.b) w ((w.setCell ⟨q.b,q.pre.length,none⟩ (.map (some w.heap.size))).alloc (.map #[] 0)):=by
 have hmo:Mod (zAc q.b) w ((w.setCell ⟨q.b,q.pre.length,none⟩ (.map (some w.heap.size))).alloc (.map #[] 0)):=(Mod.setBlk _ _ _).alloc _
 have hmap:=h.map
 rw [hm] at hmap
 refine ⟨⟨?_,h.bt,⟨hB,.map [],?_,fun k hk=>?_⟩,h.hdr,fun k i hk hno=>(h.rows k i hk hno).mod hmo (fun x hx e=>?_),h.apart,h.ok,h.few⟩,hmo⟩
 ·have:=(h.blk.set q.pre.length (.map (some w.heap.size))).mod ((Mod.refl zAb _).alloc (.map #[] 0)) id
  rw [List.set_append_right _ _ (Nat.le_refl _),Nat.sub_self,List.set_cons_zero] at this
  exact this
 ·have h1:=World.ownsMap_made (w.setCell ⟨q.b,q.pre.length,none⟩ (.map (some w.heap.size))) Tryz.prog 9 zKk
  simpa using h1
 ·obtain ⟨h1,h2⟩:=hmap k hk
  show DataW.atKey (.map []) (keyQ k) zWd=encK (q.hd k true) (q.hd k false)/\_
  rw [h1 true,h1 false]
  exact ⟨rfl,by simp [has,h2]⟩
 ·simp only [zAc] at e
  exact (h.row_ne hk hno hx).1 e
theorem yOd{w w7:World}{B N N' g:Nat}{q:TbM}{s:Tab}{name:ByteArray}{v:Bool->Value}{k':KeyS}{D:DataW Unit}(h:TbX w B N q s (·=name))(hn:okQ name)(hk:zUc w B q name v k')(hok:zGz k')(hN:k'.held.length+k'.waits.length<=N')(hNN:N<=N')(hbare:¬ k'.bare)(hq:q.m=some g)(hBg:B<=g)
  (hown:w.ownsMap Tryz.prog 9 zKk g q.n D) (h2:∀ k,okQ k->D.atKey (keyQ k) zWd=encK (q.hd k true) (q.hd k false)/\(Maps.has D (keyQ k)=true↔¬ (s k).bare))
  (h7:w7.ownsMap Tryz.prog 9 zKk g (q.n+1) (D.put (keyQ name) (encK (v true) (v false)))) (hm7:Mod (zAc g) w w7) :
  ∃ q',yDv w w7 B N' q q' s name v k':=by
 have hD:=hown.isMap
 have hty:=hown.tidy yGw
 have hsz:=hown.size_le
 have h7t:=zXd h7
 obtain ⟨n',hn',h7n,hn0⟩:∃ n',n'<=q.n+1/\w7.ownsMap Tryz.prog 9 zKk g n' (D.put (keyQ name) (encK (v true) (v false)))/\(¬ (s name).bare->n'<=q.n):=by
  refine ⟨_,h7.size_le,h7t,fun hnb=>?_⟩
  rw [size_put hty,if_pos ((h2 name hn).2.2 hnb)]
  exact hsz
 have hvg:∀ i x,(v i).ownBlock=some x->x≠g:=fun i x hx e=>by
  obtain ⟨_,_,cur,hc⟩:=zAr (hk.row i) hx
  obtain ⟨es,clock,hb,_⟩:=hown
  rw [e] at hc
  rw [hc] at hb
  cases hb
 refine ⟨_,⟨zSh (m:=some g) (n:=n') h hn hk hok hN hNN hm7 (fun k i x hk2 hx e=>?_) ?_ ⟨hBg,_,h7n,fun k hk2=>?_⟩,rfl,rfl,rfl,rfl,hn',hn0,hm7.mono (fun x _ e=>.inr (by simp only [zAc] at e;rw [hq,e])),fun x hx=>?_⟩⟩
 ·simp only [zAc] at e
  by_cases e1:k=name
  ·subst e1;rw [zFp] at hx;exact hvg i x hx e
  ·rw [zFo e1] at hx;exact (h.row_ne hk2 e1 hx).2 (by rw [hq,e])
 ·have:=h.blk.mod hm7 (fun e=>by simp only [zAc] at e;exact h.map_ne (by rw [hq,e]))
  rw [hq] at this
  exact this
 ·by_cases e:k=name
  ·subst e
   rw [zFp,zEr,atKey_put_same hD (zRc _),has_put_same hD (zRc _)]
   exact ⟨rfl,by simp [hbare]⟩
  ·have hne:keyQ k≠keyQ name:=fun e2=>e (zXo e2)
   rw [zFo e,zFn e,atKey_put_other hne,has_put_other hne]
   exact h2 k hk2
 ·rcases hx with hx | ⟨k,i,hk2,hx⟩
  ·exact .inl (.inl (by rw [hq];exact hx))
  ·simp only at hx
   by_cases e:k=name
   ·subst e;rw [zFp] at hx;exact .inr (.inr ⟨i,hx⟩)
   ·rw [zFo e] at hx;exact .inl (.inr ⟨k,i,hk2,hx⟩)
theorem yQt(m:Option Nat)(w:World):(binOp .eql 79 (.map m) (.map none)).run Tryz.prog w=.ok (.bool m.isNone) w:=by cases m <;> kernel_rfl
theorem zYz(w:World):(Instr.makeMap 79 none).run Tryz.prog w=.ok (.map (some w.heap.size)) (w.alloc (.map #[] 0)):=by kernel_rfl
theorem MapQ.get{w:World}{B n g:Nat}{m:Option Nat}{hd:ByteArray->Bool->Value}{s:Tab}(h:MapQ w B m n hd s)(hm:m=some g):B<=g/\∃ D,w.ownsMap Tryz.prog 9 zKk g n D/\∀ k,okQ k->D.atKey (keyQ k) zWd=encK (hd k true) (hd k false)/\(Maps.has D (keyQ k)=true↔¬ (s k).bare):=by
 subst hm;exact h
theorem zXp(B N N':Nat)(q:TbM)(s:Tab)(name:ByteArray)(v:Bool->Value)(k':KeyS)(w:World)(h:TbX w B N q s (·=name))(hn:okQ name)(hk:zUc w B q name v k')(hok:zGz k')(hN:k'.held.length+k'.waits.length<=N')(hNN:N<=N')(hqn:q.n<=1000000)(hB:B<=w.heap.size) :
  Calls Tryz.prog 113 #[.pointer (some ⟨q.b,q.pre.length,none⟩),.string name,.agg #[v true,v false]] w fun e w'=>e=.returned (.tuple #[])/\∃ q',yDv w w' B N' q q' s name v k':=by
 have hkl:Hid (keyOf Tryz.prog 9 (.string name)=some (keyQ name)):=Go.WideMaps.keyOf_string_mk Tryz.underlying9 hn
 obtain ⟨ha,hcap,hhv⟩:=zAf (hk.row true)
 obtain ⟨wa,wcap,hwv⟩:=zAf (hk.row false)
 have e1:k'.list true=k'.held:=rfl
 have e2:k'.list false=k'.waits:=rfl
 rw [e1] at hhv
 rw [e2] at hwv
 obtain ⟨w1,hw1⟩:∃ x,x=w.alloc (.cells #[v true,v false] 168):=⟨_,rfl⟩
 have hm1:Mod zAb w w1:=by rw [hw1];exact (Mod.refl _ w).alloc _
 have hb1:Blk w1 w.heap.size [v true,v false] 168:=by rw [hw1];exact Blk.new w [v true,v false] 168
 have p0:=hb1.cell 0 rfl
 have p1:=hb1.cell 1 rfl
 have hz1:=hb1.lt
 have h1:=h.mod hm1 id (fun _ _=>id)
 have c0:=h1.cell
 have hzb:=h1.blk.lt
 have HT:=Hmq h
 have HT1:=Hmq h1
 have HK:=Hmq hk
 have HM1:=Hmq hm1
 have HOK:=Hmq hok
 have HB1:=Hmq hb1
 have HW:Hid (w1.heap.size=w.heap.size+1):=by rw [hw1,Hid];simp
 rw [hhv] at p0
 rw [hwv] at p1
 rw [hhv,hwv] at hw1
 rw [hhv,hwv]
 have HHV:=Hmq hhv
 have HWV:=Hmq hwv
 have hqb:q.b<w.heap.size:=h.blk.lt
 clear h hk hok hm1 hb1 h1 hhv hwv e1 e2
 generalize hlh:k'.held.length=lh at p0 p1 hw1 HHV hN
 generalize hlw:k'.waits.length=lw at p0 p1 hw1 HWV hN
 by_cases hbare:lh=0/\lw=0
 ·obtain ⟨rfl,rfl⟩:=hbare
  have HBR:Hid k'.bare:=⟨List.eq_nil_of_length_eq_zero hlh,List.eq_nil_of_length_eq_zero hlw⟩
  cases hm:q.m with
  | none=>
   have hdn:∀ ty (w:World),(Builtin.delete_ #[79,9] ty #[.map none,.string name]).run Tryz.prog w=.ok (.tuple #[]) w:=fun ty w=>Go.ChangeMaps.run_delete_nil Tryz.underlying79 Tryz.underlying9 name
   rw [hm] at c0
   have HQ:=Hmq (yKl (v:=v) HT.out hn HBR.out hNN HM1.out hm)
   clear hm hlh hlw
   go_enter Tryz.func113,Tryz.ntmps113
   go_upto_region 1 with fail
   rw [<-hw1]
   clear hw1
   go_wp2_with fail
   first
    | go_end0
    | refine bodyPost_ret (results_none rfl _ _ _) rfl ?_
   exact ⟨rfl,HQ.out⟩
  | some g=>
   rw [hm] at c0
   obtain ⟨hBg,D,hown,hD⟩:=HT1.out.map.get hm
   have HO:=Hmq hown
   have HD:=Hmq hD
   have HQM:=Hmq hm
   clear hm hlh hlw hown hD
   go_enter Tryz.func113,Tryz.ntmps113
   go_upto_region 1 with fail
   rw [<-hw1]
   clear hw1
   go_wp2_with (first
    | (at_delete;refine wpList_delete_own _ rfl _ _ 79 9 rfl 168 yGw Tryz.underlying79 zKk g q.n D rfl HO.out _ (keyQ name) rfl hkl.out ?_)
    | fail)
   intro w2 hown2 hturn2
   have hm2:Mod (zAc g) w1 w2:=(Mod.refl _ w1).grown hturn2.grown (fun x hx _=>by simp only [zAc];simpa using hx.symm)
   have HQ:=Hmq (yOg (v:=v) HT.out hn HBR.out hNN HM1.out HQM.out hBg HD.out hown2 hm2)
   clear hown2 hturn2 hm2
   go_wp2_with fail
   first
    | go_end0
    | refine bodyPost_ret (results_none rfl _ _ _) rfl ?_
   exact ⟨rfl,HQ.out⟩
 ·have HBR:Hid (¬ k'.bare):=fun e=>hbare ⟨by rw [<-hlh,e.1];rfl,by rw [<-hlw,e.2];rfl⟩
  have hen:=yQt q.m w1
  have hmm:=zYz
  have HLEN:Hid (k'.held.length+k'.waits.length<=N'):=by rw [Hid,hlh,hlw];exact hN
  have hf0:=HT1.out.blk.frozen q.pre.length
  have HKP:Hid (∀ wc,Mod (zAc q.b) w1 wc->zUc wc B q name v k'):=fun wc hmc=>by
   have hmw:Mod (zAc q.b) w wc:=(HM1.out.mono (fun _ _ e=>e.elim)).trans hmc
   refine ⟨fun i=>(HK.out.row i).mod hmw (fun x hx e=>?_),HK.out.ne,HK.out.out⟩
   simp only [zAc] at e
   subst e
   obtain ⟨_,_,cur,hc⟩:=zAr (HK.out.row i) hx
   have:=HT.out.blk
   unfold Blk at this
   rw [hc] at this
   simp at this
   exact HT.out.bt this.2.symm
  clear hlh hlw
  go_enter Tryz.func113,Tryz.ntmps113
  go_upto_region 1 with fail
  rw [<-hw1]
  clear hw1
  have hg0:(lh=0/\¬ lw=0)\/¬ lh=0:=by omega
  go_cut [15] (fun b15 wc=>b15=.bool false/\wc=w1)
  case first=>
   rcases hg0 with ⟨rfl,hg1⟩ | hg1
   ·have hi1:¬ (lw:Int)=0:=by omega
    go_wp2_with fail
    go_meet
    case rel=>exact ⟨by first | (simp;done) | (simp;omega),rfl⟩
   ·have hi1:¬ (lh:Int)=0:=by omega
    go_wp2_with fail
    go_meet
    case rel=>exact ⟨by first | (simp;done) | (simp;omega),rfl⟩
  case rest=>
   obtain ⟨rfl,hwc0⟩:=hcut
   rw [hwc0]
   clear hwc0
   go_upto_if 25 with fail
   go_cut [] (fun wc=>∃ (g n2:Nat),TbX wc B N { q with m:=some g,n:=n2 } s (·=name)/\n2<=q.n/\Mod (zAc q.b) w1 wc/\(q.m=some g\/w1.heap.size<=g))
   case first=>
    cases hqm:q.m with
    | none=>
     have HPN:=Hmq (yOe HT1.out (Nat.le_trans hB HM1.out.size) hqm)
     have hqi:q.m.isNone=true:=by rw [hqm];rfl
     have HQM:=Hmq hqm
     clear hqm
     go_wp2_with fail
     go_meet
     case rel=>exact ⟨w1.heap.size,0,HPN.out.1,Nat.zero_le _,HPN.out.2,.inr (Nat.le_refl _)⟩
    | some g=>
     have HPS:Hid (TbX w1 B N { q with m:=some g,n:=q.n } s (·=name)):=by
      have:({ q with m:=some g,n:=q.n }:TbM)=q:=by rw [<-hqm]
      rw [this];exact HT1.out
     have hqi:q.m.isNone=false:=by rw [hqm];rfl
     have HQM:=Hmq hqm
     clear hqm
     go_wp2_with fail
     go_meet
     case rel=>exact ⟨g,q.n,HPS.out,Nat.le_refl _,Mod.refl _ _,.inl HQM.out⟩
   case rest=>
    obtain ⟨g,n2,hS,hn2,hm3,hgq⟩:=hcut
    obtain ⟨q2,hq2⟩:∃ x:TbM,x={ q with m:=some g,n:=n2 }:=⟨_,rfl⟩
    rw [<-hq2] at hS
    have hmm2:q2.m=some g:=by rw [hq2]
    have hnn2:q2.n=n2:=by rw [hq2]
    have hSd:TbX wc.drew B N q2 s (·=name):=hS.mod ((Mod.refl zAb wc).drew) id (fun _ _=>id)
    obtain ⟨hBg,D,hown,hD⟩:=hSd.map.get hmm2
    have hmw:Mod (zAc q.b) w1 wc.drew:=hm3.drew
    have hKP:zUc wc.drew B q2 name v k':=by
     have h9:=HKP.out wc.drew hmw
     exact ⟨h9.row,h9.ne,by rw [hq2];exact h9.out⟩
    obtain ⟨w7,hrun7,hown7,hturn7⟩:=hown.store yGw Tryz.underlying79 (by rw [hnn2];unfold maxLen;omega) hkl.out (yFa (zOh (HK.out.row true)) (zOh (HK.out.row false)))
    have hm7:Mod (zAc g) wc.drew w7:=(Mod.refl _ wc.drew).grown hturn7.grown (fun x hx _=>by simp only [zAc];simpa using hx.symm)
    have HFIN:Hid (∃ q',yDv w w7 B N' q q' s name v k'):=by
     obtain ⟨q',hQ⟩:=yOd hSd hn hKP HOK.out HLEN.out hNN HBR.out hmm2 hBg hown hD hown7 hm7
     refine ⟨q',⟨hQ.tb,by rw [hQ.b,hq2],by rw [hQ.pre,hq2],by rw [hQ.post,hq2],by rw [hQ.t,hq2],by have:=hQ.n1;omega,fun hb=>by have:=hQ.n0 hb;omega,?_,fun x hx=>?_⟩⟩
     ·have a1:Mod (zAc q.b) w wc.drew:=(HM1.out.mono (fun _ _ e=>e.elim)).trans hmw
      refine (a1.mono (G':=fun x=>x=q.b\/q.m=some x) (fun x _ e=>.inl e)).trans' hm7 (fun x hx e=>?_)
      simp only [zAc] at e
      rcases hgq with e2 | e2
      ·exact .inr (by rw [e2,e])
      ·have:=HM1.out.size;omega
     ·have hz3:=hmw.size
      have hz1':=HM1.out.size
      rcases hQ.own x hx with h3 | h3 | h3
      ·rw [hq2] at h3
       rcases h3 with h3 | h3
       ·simp at h3
        rcases hgq with e2 | e2
        ·exact .inl (.inl (by rw [e2,h3]))
        ·exact .inr (.inl (by omega))
       ·exact .inl (.inr h3)
      ·exact .inr (.inl (by omega))
      ·exact .inr (.inr h3)
    have x0:wc.cell? ⟨q.b,q.pre.length,none⟩=some (.map (some g)):=by have:=hS.cell;rw [hq2] at this;exact this
    have zb:q.b<wc.heap.size:=Nat.lt_of_lt_of_le hzb hm3.size
    have hne:w.heap.size≠q.b:=by omega
    have y0:=hm3.cell p0 hne
    have y1:=hm3.cell p1 hne
    have zk:w.heap.size<wc.heap.size:=Nat.lt_of_lt_of_le hz1 hm3.size
    rw [HHV.out,HWV.out] at hrun7
    clear hS hSd hown hD hKP hown7 hturn7 hm7 hmw hm3 hgq hq2 hmm2 hnn2 hen hmm
    go_upto_region 5 with fail
    go_region
    all_goals
     go_wp2_with fail
     first
      | go_end0
      | refine bodyPost_ret (results_none rfl _ _ _) rfl ?_
     exact ⟨rfl,HFIN.out⟩
theorem yQs(a:Option Addr)(n c:Nat)(a':Option Addr)(n' c':Nat)(w:World):(Instr.field 168 (.agg #[.slice a n c,.slice a' n' c']) 0).run Tryz.prog w=.ok (.slice a n c) w:=by kernel_rfl
theorem yQr(a:Option Addr)(n c:Nat)(a':Option Addr)(n' c':Nat)(w:World):(Instr.field 168 (.agg #[.slice a n c,.slice a' n' c']) 1).run Tryz.prog w=.ok (.slice a' n' c') w:=by kernel_rfl
theorem yKo(B N:Nat)(q:TbM)(s:Tab)(t:Int)(name:ByteArray)(w:World)(h:TbP w B N q s)(hn:okQ name)(hN:N<=900) :
  Calls Tryz.prog 70 #[.pointer (some ⟨q.b,q.pre.length,none⟩),.int .i64 t,.string name] w fun e w'=>e=.returned (.int .i64 (zCp (s name).held t))/\Mod zAb w w':=by
 have c0:=h.cell
 have z0:=h.blk.lt
 have hlook:=h.look hn
 have hfew:=h.few name hn
 have hr:=h.rows name true hn id
 have HM:=Hmq (zJr w.heap.size (q.hd name true) (s name).held t w (hr.toV (Nat.le_refl _)) (h.ok name hn).held (by omega))
 obtain ⟨a,cap,hd⟩:=zAf hr
 obtain ⟨a',cap',hd'⟩:=zAf (h.rows name false hn id)
 rw [hd] at hlook HM
 rw [hd'] at hlook
 have hf0:=yQs
 clear h hr
 go_enter Tryz.func70,Tryz.ntmps70
 go_wp2_with fail
 refine HM.out.mono ?_
 rintro e w1 ⟨rfl,hm⟩
 go_wp2_with fail
 go_ret
 exact ⟨rfl,hm⟩
theorem yIl(B N:Nat)(q:TbM)(s:Tab)(name:ByteArray)(w:World)(h:TbP w B N q s)(hn:okQ name)(hN:N<=900) :
  Calls Tryz.prog 77 #[.pointer (some ⟨q.b,q.pre.length,none⟩),.string name] w fun e w'=>∃ u,e=.returned u/\RowI w' w.heap.size u ((s name).waits.map (·.tx))/\Mod zAb w w':=by
 have c0:=h.cell
 have z0:=h.blk.lt
 have hlook:=h.look hn
 have hfew:=h.few name hn
 have hr:=h.rows name false hn id
 have HM:=Hmq (yIn w.heap.size (q.hd name false) (s name).waits w (hr.toV (Nat.le_refl _)) (by omega))
 obtain ⟨a,cap,hd⟩:=zAf hr
 obtain ⟨a',cap',hd'⟩:=zAf (h.rows name true hn id)
 rw [hd] at hlook HM
 rw [hd'] at hlook
 have hf0:=yQr
 clear h hr
 go_enter Tryz.func77,Tryz.ntmps77
 go_wp2_with fail
 refine HM.out.mono ?_
 rintro e w1 ⟨u,rfl,hu,hm⟩
 have HU:=Hmq hu
 obtain ⟨ua,ucap,hua⟩:=zAf hu
 subst hua
 have HU2:Hid (RowI w1 w.heap.size (.slice ua (s name).waits.length ucap) ((s name).waits.map (·.tx))):=by
  have h1:=HU.out
  rw [List.length_map] at h1
  exact h1
 clear hu HU
 go_wp2_with fail
 go_ret
 exact ⟨_,rfl,HU2.out,hm⟩
def errQ(e:Int):Value:=if e=0 then .nilIface else .iface 90 (.int .i64 e)
structure yQy(w w':World)(B N:Nat)(q q':TbM)(s:Tab)(name:ByteArray)(c:ClmD)(u:Value):Prop where
 wound:RowI w' w.heap.size u (zCn (s name) c).2.2.1
 tb:TbP w' B N q' (updK s name (zCn (s name) c).1)
 b:q'.b=q.b
 pre:q'.pre=q.pre
 post:q'.post=q.post
 t:q'.t=q.t
 n:q'.n<=q.n+1
 md:Mod (fun x=>x=q.b\/q.own x) w w'
 own:∀ x,q'.own x->q.own x\/w.heap.size<=x
def yHz(w:World)(B N:Nat)(q:TbM)(s:Tab)(name:ByteArray)(c:ClmD)(e:Ending)(w':World):Prop:=
 ∃ q' u,e=.returned (.tuple #[.bool (zCn (s name) c).2.1,u,errQ (zCn (s name) c).2.2.2])/\yQy w w' B N q q' s name c u
theorem yIm(s:Tab)(k:ByteArray):updK s k (s k)=s:=by
 funext y;unfold updK;split
 ·rename_i e;rw [e]
 ·rfl
theorem TbX.more{w:World}{B N N':Nat}{q:TbM}{s:Tab}{no:ByteArray->Prop}(h:TbX w B N q s no)(hN:N<=N'):TbX w B N' q s no:=
 ⟨h.blk,h.bt,h.map,h.hdr,h.rows,h.apart,h.ok,fun k hk=>Nat.le_trans (h.few k hk) hN⟩
theorem zSb{w w':World}{B N:Nat}{q:TbM}{s:Tab}{name:ByteArray}{c:ClmD}(h:TbP w B N q s)(hm:Mod zAb w w')(h1:(zCn (s name) c).1=s name)(h2:(zCn (s name) c).2.2.1=[]):yQy w w' B (N+1) q q s name c (.slice none 0 0):=by
 refine ⟨by rw [h2];exact World.ownsRow_nil _ _ _ _,?_,rfl,rfl,rfl,rfl,by omega,hm.mono (fun _ _ e=>e.elim),fun x hx=>.inl hx⟩
 rw [h1,yIm]
 exact (h.more (by omega)).mod hm id (fun _ _=>id)
theorem yKe(k:KeyS)(c:ClmD):(zCn k c).1.held.length+(zCn k c).1.waits.length<=k.held.length+k.waits.length+1:=by
 unfold zCn
 split
 ·simp only;omega
 split
 ·simp only;omega
 split
 ·have:=zOo k.held c;simp only;omega
 split
 ·simp only;omega
 ·have:=zOo k.waits c;simp only;omega
theorem yEr{w w6:World}{B N:Nat}{q:TbM}{s:Tab}{name:ByteArray}{u:Value}{l:List ClmD}(i0:Bool)(k':KeyS)(h:TbP w B N q s)(hn:okQ name)(hu:RowK w6 B u l)(hl:k'.list i0=l)(ho:k'.list (!i0)=(s name).list (!i0))
  (hm:Mod (fun x=>(q.hd name i0).ownBlock=some x\/w.heap.size<=x) w w6) (hat:u.ownBlock=(q.hd name i0).ownBlock\/∀ x,u.ownBlock=some x->w.heap.size<=x) :
  zUc w6 B q name (fun i=>if i=i0 then u else q.hd name i) k'/\TbX w6 B N q s (·=name):=by
 have hub:∀ x,u.ownBlock=some x->(q.hd name i0).ownBlock=some x\/w.heap.size<=x:=fun x hx=>by
  rcases hat with e | e
  ·exact .inl (by rw [<-e];exact hx)
  ·exact .inr (e x hx)
 have hlt:∀ k i x,okQ k->(q.hd k i).ownBlock=some x->x<w.heap.size:=fun k i x hk hx=>(h.old hk id hx).2.1
 have hne:∀ x,(q.hd name (!i0)).ownBlock=some x->u.ownBlock≠some x:=fun x hx e=>by
  rcases hub x e with e2 | e2
  ·have:=(h.apart name name (!i0) i0 x hn hn hx e2).2;cases i0 <;> cases this
  ·have:=hlt name (!i0) x hn hx;omega
 refine ⟨⟨fun i=>?_,fun x h1 h2=>?_,fun k i j x hk hkn h1 h2=>?_⟩,(h.less _).turn hm (fun e=>?_) (fun x hx e=>?_) (fun k i x hk hkn hx e=>?_)⟩
 ·by_cases e:i=i0
  ·subst e;simp only [if_true];rw [hl];exact hu
  ·have:i=!i0:=by cases i <;> cases i0 <;> simp_all
   subst this
   simp only [e,if_false]
   rw [ho]
   refine (h.rows name (!i0) hn id).mod hm (fun x hx e2=>?_)
   rcases e2 with e2 | e2
   ·have:=(h.apart name name (!i0) i0 x hn hn hx e2).2;cases i0 <;> cases this
   ·have:=hlt name (!i0) x hn hx;omega
 ·cases i0
  ·simp only [Bool.true_eq_false,if_false,if_true] at h1 h2
   exact hne x h1 h2
  ·simp only [Bool.false_eq_true,if_false,if_true] at h1 h2
   exact hne x h2 h1
 ·by_cases e:j=i0
  ·subst e
   simp only [if_true] at h2
   rcases hub x h2 with e2 | e2
   ·exact hkn (h.apart k name i j x hk hn h1 e2).1
   ·have:=hlt k i x hk h1;omega
  ·simp only [e,if_false] at h2
   exact hkn (h.apart k name i j x hk hn h1 h2).1
 ·rcases e with e | e
  ·exact (h.row_ne hn id e).1 rfl
  ·have:=h.blk.lt;omega
 ·rcases e with e | e
  ·exact (h.row_ne hn id e).2 hx
  ·have:=(h.lt (.inl hx)).2;omega
 ·rcases e with e | e
  ·exact hkn (h.apart k name i i0 x hk hn hx e).1
  ·have:=hlt k i x hk hx;omega
end Go.Proofs.YtmaiggbnceejiaaGreatDoor
