import Derived.Test.YtogaigioeohjaaaGreatDoorD20
set_option linter.unusedVariables false
set_option maxRecDepth 100000
set_option maxHeartbeats 16000000
namespace Go.Proofs.YtogaigioeohjaaaGreatDoor
open Go.RowKit Go.Lib Go.Maps
structure zAm(w:World)(y:HLay)(w':World)(y':HLay):Prop where
 st:zFi w y w' y'
 l:y'.lbs=y.lbs
 n:y'.nbs=y.nbs
 t:y'.tbs=y.tbs
 lv:y'.lv=y.lv
 tv:y'.tv=y.tv
theorem zAm.refl(w:World)(y:HLay):zAm w y w y:=⟨zFi.refl _ _,rfl,rfl,rfl,rfl,rfl⟩
theorem zAm.quiet{w w':World}{y:HLay}(hm:Mod zAb w w'):zAm w y w' y:=⟨zFi.quiet hm,rfl,rfl,rfl,rfl,rfl⟩
theorem zAm.trans{w w1 w2:World}{y y1 y2:HLay}(h:zAm w y w1 y1)(k:zAm w1 y1 w2 y2):zAm w y w2 y2:=⟨h.st.trans k.st,k.l.trans h.l,k.n.trans h.n,k.t.trans h.t,k.lv.trans h.lv,k.tv.trans h.tv⟩
theorem zBf{w:World}{B:Nat}{e t:TypeId}{sz m:Nat}{v:Value}{xs:List Value}(h:w.ownsRow B e sz v m xs){b:Nat}{cs:List Value}(hb:Blk w b cs t)(hne:e≠t):v.ownBlock≠some b:=fun q=>by
 obtain ⟨_,_,cur,hc⟩:=zAi h q
 unfold Blk at hb
 rw [hb] at hc
 simp at hc
 exact hne hc.2.symm
theorem zLz(s:zAa){id:Nat}(t:TxS):{ s with txs:=s.txs.set (id - 1) t }=setTx s id t:=rfl
theorem zFx(s:zAa){id:Nat}(t:TxS)(h1:1<=id)(h2:id<=s.txs.length):(setTx s id t).tx id=t:=by
 unfold zAa.tx setTx
 rw [List.getD_eq_getElem?_getD,zDn,if_pos ⟨rfl,by omega⟩];rfl
theorem zFb(s:zAa){id j:Nat}(t:TxS)(h:j - 1≠id - 1):(setTx s id t).tx j=s.tx j:=by
 unfold zAa.tx setTx
 rw [List.getD_eq_getElem?_getD,zDn,if_neg (fun q=>h q.1),List.getD_eq_getElem?_getD]
theorem zBd(s:zAa)(id:Nat)(t:TxS):(setTx s id t).txs.length=s.txs.length:=by simp [setTx]
theorem yEi(s:zAa)(id:Nat)(st:Int):(zDe s id st).txs.length=s.txs.length:=zBd _ _ _
theorem zMn(s:zAa)(id:Nat):(zBh s id).txs.length=s.txs.length:=by
 unfold zBh;rw [yEi];split
 ·exact zBd _ _ _
 ·rfl
theorem zYk(s:zAa)(id:Nat)(st:Int):(zDe s id st).lines=s.lines:=rfl
theorem zGl(s:zAa)(id:Nat):(zBh s id).lines=s.lines:=by
 unfold zBh;rw [zYk];split <;> rfl
theorem zPw(n c g:Nat)(y:HLay)(s:zAa)(id:Nat)(st:Int)(w:World)(h:zAe w n c g y s)(h1:1<=id)(h2:id<=s.txs.length)(hl:s.txs.length<=60)(hc:c<=10000) :
  Calls Tryz.prog 138 #[.pointer (some ⟨g,0,none⟩),.int .i64 id,.int .i64 st] w fun e w'=>e=.returned (.tuple #[])/\∃ y',zAe w' n c g y' (zDe s id st)/\zAm w y w' y':=by
 obtain ⟨b,hb,hT⟩:=h.txQ h1 h2
 have HT:=Hmq (zHy n c g y s id b w h h1 (by omega) hb)
 have hti:=zIj h1 h2
 have c0:=hT.blk.cell 0 rfl
 have c2:=hT.blk.cell 2 rfl
 have f0:=hT.blk.frozen 0
 have f2:=hT.blk.frozen 2
 have zb:=hT.blk.lt
 obtain ⟨w1,hw1⟩:∃ x,x=(w.setCell ⟨b,0,none⟩ (.int .i64 st)).setCell ⟨b,2,none⟩ (.slice none 0 0):=⟨_,rfl⟩
 have hm1:Mod (zAd b) w w1:=by rw [hw1];exact (Mod.setBlk b 0 _).trans (Mod.setBlk b 2 _)
 have hB1:Blk w1 b [.int .i64 st,y.tav b,.slice none 0 0,.int .i64 (s.tx id).time] 97:=by rw [hw1];exact (hT.blk.set 0 _).set 2 _
 have hna:=zBf hT.ats hT.blk (by decide)
 obtain ⟨hH1,hS1⟩:=h.turnT hb hti (t':={ s.tx id with state:=st,writes:=[] }) (av:=y.tav b) (wv:=.slice none 0 0) (hm1.mono (fun x _ e=>.inl e)) hB1 (zAn hT.ats hm1 (fun k _ _ e q=>hna (by rw [e];exact congrArg some q))) (World.ownsRow_nil _ _ _ _) (.inl (.inl rfl)) (.inr rfl)
 rw [zLz] at hH1
 have hK1:zAm w y w1 (y.setT w b (y.tav b) (.slice none 0 0)):=⟨hS1,rfl,rfl,rfl,rfl,rfl⟩
 generalize y.setT w b (y.tav b) (.slice none 0 0)=y1 at hH1 hK1
 have hg1:=hH1.blk.cell 5 rfl
 have HR:=Hmq (yDg n 120 (y1.tb g (setTx s id { s.tx id with state:=st,writes:=[] }).net.lost) _ id w1 hH1.tabP (by show 90≠285;decide) (by omega) (by have:=hH1.qn.2.2;show y1.q.n<=10000;omega) (Nat.le_trans hH1.low (Nat.le_of_lt hH1.blk.lt)))
 have HH:=Hmq hH1
 have HK:=Hmq hK1
 clear h hT hb hti hm1 hB1 hS1 hH1 hK1 hna
 go_enter Tryz.func138,Tryz.ntmps138
 go_wp2_with (first
  | (go_at_call 72;refine HT.out.mono ?_;rintro e w2 ⟨rfl,rfl⟩)
  | fail)
 rw [<-hw1]
 refine HR.out.mono ?_
 rintro e w3 ⟨gv,q',ks,rfl,hQ⟩
 obtain ⟨hH3,hS3⟩:=HH.out.turnQ (c':=c) hQ.md hQ.tb hQ.b hQ.pre hQ.post hQ.ty (Nat.le_trans hQ.n HH.out.qn.2.2) hQ.own hQ.tb.few
 have HF:Hid (∃ y',zAe w3 n c g y' (zDe s id st)/\zAm w2 y w3 y'):=⟨_,hH3,HK.out.trans ⟨hS3,rfl,rfl,rfl,rfl,rfl⟩⟩
 clear hH3 hS3 hQ HH HK HR HT hw1 c0 c2 f0 f2
 go_wp2_with fail
 go_end0
 exact ⟨rfl,HF.out⟩
def yCq:Array Value:=#[.int .i64 0]
def zGp(n:Nat):List Value:=(Builtin.zeroCells yCq n).toList
theorem zHc(n:Nat):(zGp n).length=n:=by rw [zGp,Array.length_toList,size_zeroCells];show n*1=n;omega
theorem zRi(n:Nat):∀ v∈zGp n,v=.int .i64 0:=by
 intro v hv
 simp only [zGp,Builtin.zeroCells,Array.toList_map,List.mem_map] at hv
 obtain ⟨i,_,rfl⟩:=hv
 have:i % yCq.size=0:=Nat.mod_one i
 rw [this];rfl
theorem yGo(n:Nat):zGp n=(List.replicate n (0:Int)).map (Value.int .i64):=by
 rw [List.map_replicate]
 exact List.eq_replicate_iff.2 ⟨zHc n,zRi n⟩
theorem ySh(w:World):(zeroValue 3).run Tryz.prog w=.ok (.int .i64 0) w:=by kernel_rfl
theorem yDf(w:World)(ty:TypeId)(b n c:Nat)(hn:0<n)(hc:∀ j,j<n->(w.cell? ⟨b,0+j,none⟩).isSome=true)(hf:∀ j,j<n->w.frozen? ⟨b,0+j,none⟩=false) :
  (Builtin.clear_ #[94] ty #[.slice (some ⟨b,0,none⟩) n c]).run Tryz.prog w=.ok (.tuple #[]) (w.setCells b 0 (zGp n)):=by
 have hst:=run_storeCells_cells (P:=Tryz.prog) b 0 (zGp n) 0 w (by simpa [zHc] using hc) (by simpa [zHc] using hf) (fun v hv=>by rw [zRi n v hv];rfl)
 simp only [Nat.add_zero] at hst
 obtain ⟨m,rfl⟩:∃ m,n=m+1:=⟨n - 1,by omega⟩
 have hz:=ySh
 have e:(Value.cells (.int .i64 0))=yCq:=rfl
 simp only [zGp] at hst ⊢
 simp [Builtin.clear_,run_underlying Tryz.underlying94,hz,e,hst]
theorem zTy{w:World}{ops:Array Oper}{rest:List Oper}{o:Oper}{a:Act}{Q:Exit->Act->World->Prop}(hgd:o.guard=none)(s:Operand)
  (ho:o.op=.call { callee:=.builtin .clear,args:=#[s],argTypes:=#[94] }) (b n c:Nat) (hs:a.eval s=.slice (some ⟨b,0,none⟩) n c) (hn:0<n)
  (hc:∀ j,j<n->(w.cell? ⟨b,0+j,none⟩).isSome=true) (hf:∀ j,j<n->w.frozen? ⟨b,0+j,none⟩=false)
  (h:wpList Tryz.prog ops Q rest (a.put o.dst (.tuple #[])) (w.setCells b 0 (zGp n))):wpList Tryz.prog ops Q (o :: rest) a w:=by
 refine wpList_plain hgd fun K hK=>?_
 have hr:=yDf w o.type b n c hn hc hf
 unfold Oper.wp execOp
 simp only [ho,resolve,invoke,builtin,Sem.run_bind,Sem.run_pure,Result.andThen_ok,List.map_toArray,List.map_cons,List.map_nil,hs,hr]
 exact hK _ _ h
theorem yKy{w:World}{B:Nat}{b m cap:Nat}{l:List Int}(h:w.ownsRow B 3 1 (.slice (some ⟨b,0,none⟩) m cap) l.length (l.map (Value.int .i64))):(w.setCells b 0 (zGp l.length)).ownsRow B 3 1 (.slice (some ⟨b,0,none⟩) m cap) l.length ((l.map fun _=>(0:Int)).map (Value.int .i64))/\Mod (zAd b) w (w.setCells b 0 (zGp l.length))/\(∀ j,j<l.length->(w.cell? ⟨b,0+j,none⟩).isSome=true)/\(∀ j,w.frozen? ⟨b,0+j,none⟩=false):=by
 obtain ⟨h1,h2⟩:=h
 rcases h2 with ⟨e,_⟩ | ⟨b',cap',cur,e,q1,q2,q3,q4,q5,q6⟩
 ·simp at e
 ·simp only [Value.slice.injEq,Option.some.injEq,Addr.mk.injEq] at e
  obtain ⟨⟨rfl,_,_⟩,rfl,rfl⟩:=e
  have hB:Blk w b ([]++l.map (Value.int .i64)++cur.toList.drop l.length) 3:=by
   unfold Blk
   rw [q2]
   congr 2
   apply Array.ext'
   simp only [List.nil_append]
   have:cur.toList.take l.length=l.map (Value.int .i64):=by simpa using q6
   rw [<-this,List.take_append_drop]
  have hB2:=Blk.midQ (g:=b) (t:=3) (zGp l.length) w [] (l.map (Value.int .i64)) (cur.toList.drop l.length) hB (by simp [zHc])
  have hcs:l.length<=cur.size:=by omega
  refine ⟨⟨by simp,.inr ⟨b,cap,(zGp l.length++cur.toList.drop l.length).toArray,rfl,q1,?_,q3,q4,?_,?_⟩⟩,Mod.midQ _ _ _,fun j hj=>?_,fun j=>hB.frozen _⟩
  ·unfold Blk at hB2;simpa using hB2
  ·simp only [List.size_toArray,List.length_append,zHc,List.length_drop,Array.length_toList];omega
  ·have e1:(l.map fun _=>(0:Int))=List.replicate l.length 0:=List.eq_replicate_iff.2 ⟨by rw [List.length_map],fun b hb=>by obtain ⟨_,_,e⟩:=List.mem_map.1 hb;exact e.symm⟩
   rw [e1,<-yGo]
   simp [zHc]
  ·obtain ⟨x,hx⟩:∃ x,([]++l.map (Value.int .i64)++cur.toList.drop l.length)[0+j]?=some x:=⟨_,List.getElem?_eq_getElem (by simp;omega)⟩
   rw [hB.cell (0+j) hx];rfl
theorem zTp(n c g:Nat)(y:HLay)(s:zAa)(id:Nat)(w:World)(h:zAe w n c g y s)(h1:1<=id)(h2:id<=s.txs.length)(hl:s.txs.length<=60)(hc:c<=10000)(ha:0<(s.tx id).ats.length) :
  Calls Tryz.prog 84 #[.pointer (some ⟨g,0,none⟩),.int .i64 id] w fun e w'=>e=.returned (.tuple #[])/\∃ y',zAe w' n c g y' (zBh s id)/\zAm w y w' y':=by
 obtain ⟨b,hb,hT⟩:=h.txQ h1 h2
 have HT:=Hmq (zHy n c g y s id b w h h1 (by omega) hb)
 have hti:=zIj h1 h2
 have c0:=hT.blk.cell 0 rfl
 have c1:=hT.blk.cell 1 rfl
 by_cases hs1:(s.tx id).state=1
 ·obtain ⟨ab,acap,hav⟩:∃ ab acap,y.tav b=.slice (some ⟨ab,0,none⟩) (s.tx id).ats.length acap:=by
   rcases hT.ats.2 with ⟨e,h0⟩ | ⟨g',cap',cur,e,_⟩
   ·omega
   ·exact ⟨g',cap',e⟩
  have hrow:=hT.ats
  rw [hav] at hrow c1
  obtain ⟨r1,r2,r3,r4⟩:=yKy hrow
  have hna:ab≠b:=fun e=>zBf hrow hT.blk (by decide) (by rw [e];rfl)
  have hne:∀ k,(y.twv b).ownBlock=some k->k≠ab:=fun k hk e=>by
   subst e
   obtain ⟨_,_,cur,hc1⟩:=zAi hT.wr hk
   obtain ⟨_,_,cur',hc2⟩:=zAi hrow rfl
   rw [hc1] at hc2;simp at hc2
  obtain ⟨w1,hw1⟩:∃ x,x=w.setCells ab 0 (zGp (s.tx id).ats.length):=⟨_,rfl⟩
  rw [<-hw1] at r1 r2
  obtain ⟨hH1,hS1⟩:=h.turnT hb hti (t':={ s.tx id with ats:=(s.tx id).ats.map fun _=>0 }) (av:=y.tav b) (wv:=y.twv b) (r2.mono (fun x _ e=>.inr (.inl (by rw [hav];exact congrArg some (Eq.symm e))))) (hT.blk.mod r2 (fun e=>hna (Eq.symm e))) (by rw [hav,List.length_map];exact r1) (zAn hT.wr r2 (fun k _ _ e q=>hne k e q)) (.inl (.inl rfl)) (.inl (.inl rfl))
  rw [zLz] at hH1
  have hK1:zAm w y w1 (y.setT w b (y.tav b) (y.twv b)):=⟨hS1,rfl,rfl,rfl,rfl,rfl⟩
  generalize y.setT w b (y.tav b) (y.twv b)=y1 at hH1 hK1
  have HFI:=Hmq (zPw n c g y1 _ id 4 w1 hH1 h1 (by rw [zBd];exact h2) (by rw [zBd];exact hl) hc)
  have HAB:Hid (zBh s id=zDe (setTx s id { s.tx id with ats:=(s.tx id).ats.map fun _=>0 }) id 4):=by unfold Hid zBh;rw [if_pos hs1]
  have hsb:((s.tx id).state == 1)=true:=by simpa using hs1
  have HK:=Hmq hK1
  have HR3:=Hmq r3
  have HR4:Hid (∀ j,j<(s.tx id).ats.length->w.frozen? ⟨ab,0+j,none⟩=false):=fun j _=>r4 j
  clear h hT hb hti hrow r1 r2 r3 r4 hH1 hK1 hS1 hs1 hav hne
  go_enter Tryz.func84,Tryz.ntmps84
  go_wp2_with (first
   | (go_at_call 72;refine HT.out.mono ?_;rintro e w2 ⟨rfl,rfl⟩)
   | (refine zTy rfl _ rfl ab (s.tx id).ats.length _ rfl ha HR3.out HR4.out ?_;rw [<-hw1];clear hw1)
   | (go_at_call 138;refine HFI.out.mono ?_;rintro e w3 ⟨rfl,y3,hH3,hK3⟩;(have HF:Hid (∃ y',zAe w3 n c g y' (zBh s id)/\zAm w2 y w3 y'):=⟨y3,by rw [HAB.out];exact hH3,HK.out.trans hK3⟩);clear hH3 hK3)
   | fail)
  go_end0
  exact ⟨rfl,HF.out⟩
 ·have HFI:=Hmq (zPw n c g y s id 4 w h h1 h2 hl hc)
  have HAB:Hid (zBh s id=zDe s id 4):=by unfold Hid zBh;rw [if_neg hs1]
  have hsb:((s.tx id).state == 1)=false:=by simpa using hs1
  clear h hT hb hti hs1 c1
  go_enter Tryz.func84,Tryz.ntmps84
  go_wp2_with (first
   | (go_at_call 72;refine HT.out.mono ?_;rintro e w2 ⟨rfl,rfl⟩)
   | (go_at_call 138;refine HFI.out.mono ?_;rintro e w3 ⟨rfl,y3,hH3,hK3⟩;(have HF:Hid (∃ y',zAe w3 n c g y' (zBh s id)/\zAm w2 y w3 y'):=⟨y3,by rw [HAB.out];exact hH3,hK3⟩);clear hH3 hK3)
   | fail)
  go_end0
  exact ⟨rfl,HF.out⟩
structure zBk(s s':zAa):Prop where
 l:s'.lines=s.lines
 d:s'.dead=s.dead
 net:s'.net=s.net
 len:s'.txs.length=s.txs.length
 at_:∀ j,(s'.tx j).ats.length=(s.tx j).ats.length
theorem zBk.refl(s:zAa):zBk s s:=⟨rfl,rfl,rfl,rfl,fun _=>rfl⟩
theorem zBk.trans{a b c:zAa}(h:zBk a b)(k:zBk b c):zBk a c:=⟨k.l.trans h.l,k.d.trans h.d,k.net.trans h.net,k.len.trans h.len,fun j=>(k.at_ j).trans (h.at_ j)⟩
theorem yKv(s:zAa)(id:Nat)(t:TxS)(j:Nat):(setTx s id t).tx j=s.tx j\/((setTx s id t).tx j=t/\j - 1=id - 1):=by
 by_cases h:j - 1=id - 1
 ·by_cases h2:id - 1<s.txs.length
  ·refine .inr ⟨?_,h⟩
   unfold zAa.tx setTx
   rw [List.getD_eq_getElem?_getD,zDn,if_pos ⟨h,by omega⟩];rfl
  ·refine .inl ?_
   unfold zAa.tx setTx
   rw [List.getD_eq_getElem?_getD,zDn,if_neg (fun q=>by omega),List.getD_eq_getElem?_getD]
 ·exact .inl (zFb s t h)
theorem zBk.setTx(s:zAa)(id:Nat)(t:TxS)(h:t.ats.length=(s.tx id).ats.length):zBk s (setTx s id t):=by
 refine ⟨rfl,rfl,rfl,zBd _ _ _,fun j=>?_⟩
 rcases yKv s id t j with e | ⟨e,q⟩
 ·rw [e]
 ·rw [e,h]
  have:s.tx j=s.tx id:=by unfold zAa.tx;rw [q]
  rw [this]
theorem zBk.finish(s:zAa)(id:Nat)(st:Int):zBk s (zDe s id st):=by
 have h:=zBk.setTx s id { s.tx id with state:=st,writes:=[] } rfl
 exact ⟨rfl,rfl,rfl,h.len,h.at_⟩
theorem zBk.abort(s:zAa)(id:Nat):zBk s (zBh s id):=by
 unfold zBh
 split
 ·exact (zBk.setTx s id { s.tx id with ats:=(s.tx id).ats.map fun _=>0 } (by simp)).trans (zBk.finish _ id 4)
 ·exact zBk.finish s id 4
def wound1(h:zAa)(i:Int):zAa:=if (h.tx i.toNat).state=1 then zBh h i.toNat else h
theorem yKa(s:zAa)(ids:List Int):zBz s ids=ids.foldl wound1 s:=rfl
theorem zBk.wound1(s:zAa)(i:Int):zBk s (wound1 s i):=by
 unfold Go.Proofs.YtogaigioeohjaaaGreatDoor.wound1
 split
 ·exact zBk.abort s _
 ·exact zBk.refl s
theorem zBk.wound:∀ (ids:List Int) (s:zAa),zBk s (zBz s ids)
 | [],s=>zBk.refl s
 | i :: ids,s=>(zBk.wound1 s i).trans (zBk.wound ids _)
theorem yCw(s:zAa)(ids:List Int)(i:Int):zBz s (ids++[i])=wound1 (zBz s ids) i:=by simp [yKa,List.foldl_append]
def zTt(w:World)(y:HLay)(v:Value)(l:List Int):Prop:=SlR w w.heap.size 1 yHj v l/\∀ k,v.ownBlock=some k->y.own k=.no/\k<w.heap.size
theorem zTt.keep{w w':World}{y y':HLay}{v:Value}{l:List Int}(h:zTt w y v l)(k:zFi w y w' y'):zTt w' y' v l:=by
 obtain ⟨⟨a,cap,h2,h3,h4,h5⟩,hn⟩:=h
 refine ⟨⟨a,cap,h2,h3,h4,?_⟩,fun z hz=>⟨by rw [k.old z (hn z hz).2];exact (hn z hz).1,Nat.lt_of_lt_of_le (hn z hz).2 k.size⟩⟩
 rcases h5 with h5 | ⟨b,off,h6,h7,h8⟩
 ·exact .inl h5
 ·refine .inr ⟨b,off,h6,Nat.lt_of_lt_of_le h7 k.size,fun i d hi=>?_⟩
  obtain ⟨x,hx,hx2,hx3⟩:=h8 i d hi
  exact ⟨x,hx,hx2,fun j u hu=>k.md.cell (hx3 j u hu) (fun e=>e (hn b (by rw [h2,h6];rfl)).1)⟩
theorem zTt.at{w:World}{y:HLay}{a:Option Addr}{m cap:Nat}{l:List Int}(h:zTt w y (.slice a m cap) l){i:Nat}{x:Int}(hi:l[i]?=some x):∃ b off,a=some ⟨b,off,none⟩/\w.cell? ⟨b,off+i,none⟩=some (.int .i64 x):=by
 obtain ⟨b,off,cs,h1,h2,h3,_,h5⟩:=SlR.at h.1 hi
 unfold yHj at h3
 subst h3
 have:=h5 0 _ rfl
 simp only [Nat.add_zero,Nat.mul_one] at this
 exact ⟨b,off,h1,this⟩
theorem zXl{w:World}{B:Nat}{v:Value}{l:List Int}(h:RowI w B v l):SlR w w.heap.size 1 yHj v l:=by
 obtain ⟨h1,h2⟩:=h
 rcases h2 with ⟨rfl,hn⟩ | ⟨g,cap,cur,rfl,q1,q2,q3,q4,q5,q6⟩
 ·have:l=[]:=List.eq_nil_of_length_eq_zero hn
  subst this
  exact SlR.nil _ _ _ _
 ·have hc:RowI w B (.slice (some ⟨g,0,none⟩) l.length cap) l:=⟨h1,.inr ⟨g,cap,cur,rfl,q1,q2,q3,q4,q5,q6⟩⟩
  have hgl:g<w.heap.size:=(Array.getElem?_eq_some_iff.1 q2).1
  refine ⟨_,cap,rfl,q3,q4,.inr ⟨g,0,rfl,by omega,fun i o hi=>⟨[.int .i64 o],rfl,rfl,fun j x hx=>?_⟩⟩⟩
  have hcc:w.ownsRow B 3 1 (.slice (some ⟨g,0,none⟩) l.length cap) l.length (zHp l):=hc
  have e2:=hcc.cells (g:=g) rfl i (.int .i64 o) (by simp [zHp,hi])
  rw [Go.WideShapes.add_plain,Nat.zero_add] at e2
  have hj:j=0:=by have:=(List.getElem?_eq_some_iff.1 hx).1;simp at this;omega
  subst hj
  simp at hx
  subst hx
  simpa using e2
theorem zYy(n c g:Nat)(y:HLay)(s:zAa)(v:Value)(ids:List Int)(w:World)(h:zAe w n c g y s)(hs:zGd s)(hc:c<=10000)(hv:zTt w y v ids)(hi:∀ i∈ids,1<=i/\i<=(s.txs.length:Int)) :
  Calls Tryz.prog 120 #[.pointer (some ⟨g,0,none⟩),v] w fun e w'=>e=.returned (.tuple #[])/\∃ y',zAe w' n c g y' (zBz s ids)/\zAm w y w' y':=by
 obtain ⟨a,cap,rfl,hc1,hc2⟩:=SlR.slice hv.1
 unfold maxLen at hc2
 have HV:=Hmq hv
 have HI:=Hmq hi
 have HH:=Hmq h
 have htl:=hs.tl
 have HTA:=Hmq hs.ta
 have hll:=hs.ll
 clear hv hi h hs
 go_enter Tryz.func120,Tryz.ntmps120
 go_wp2_with fail
 go_loopw [8] (fun i0 wr=>∃ (i:Nat) (yr:HLay),i<=ids.length/\i0=.int .i64 i/\zAe wr n c g yr (zBz s (ids.take i))/\zAm w y wr yr) (fun i0 _=>ids.length - (intOf i0).toNat)
 case atStart=>exact ⟨0,y,Nat.zero_le _,rfl,by rw [List.take_zero];exact HH.out,zAm.refl _ _⟩
 case round=>
  obtain ⟨i,yr,hil,rfl,hH,hK⟩:=hrel
  by_cases hlt:i<ids.length
  ·obtain ⟨x,hx⟩:∃ x,ids[i]?=some x:=⟨_,List.getElem?_eq_getElem hlt⟩
   obtain ⟨b,off,rfl,q0⟩:=(HV.out.keep hK.st).at hx
   obtain ⟨hx1,hx2⟩:=HI.out x (List.mem_of_getElem? hx)
   obtain ⟨id,rfl⟩:∃ id:Nat,x=id:=⟨x.toNat,by omega⟩
   have hsame:=zBk.wound (ids.take i) s
   have hle:id<=(zBz s (ids.take i)).txs.length:=by rw [hsame.len];omega
   obtain ⟨tb,htb,hT⟩:=hH.txQ (id:=id) (by omega) hle
   have t0:=hT.blk.cell 0 rfl
   have HT:=Hmq (zHy n c g yr _ id tb wr hH (by omega) (by omega) htb)
   have hats:0<((zBz s (ids.take i)).tx id).ats.length:=by
    rw [hsame.at_ id,HTA.out _ (zNm (by omega) (by omega))];omega
   have HAB:=Hmq (zTp n c g yr _ id wr hH (by omega) hle (by rw [hsame.len];exact htl) hc hats)
   have HSN:Hid (zBz s (ids.take (i+1))=wound1 (zBz s (ids.take i)) id):=by unfold Hid;rw [zBt hx,yCw]
   have HK:=Hmq hK
   have HHr:=Hmq hH
   have hltI:(i:Int)<(ids.length:Int):=by omega
   have hi0:(0:Int)<=(i:Int):=by omega
   clear hH hK hT htb hx hsame hats hx1 hx2 HV
   by_cases hs1:((zBz s (ids.take i)).tx id).state=1
   ·have hsb:(((zBz s (ids.take i)).tx id).state == 1)=true:=by simpa using hs1
    have HW1:Hid (wound1 (zBz s (ids.take i)) id=zBh (zBz s (ids.take i)) id):=by unfold Hid wound1;rw [Int.toNat_natCast,if_pos hs1]
    clear hs1
    go_wp2_with (first
     | (go_at_call 72;refine HT.out.mono ?_;rintro e w2 ⟨rfl,rfl⟩)
     | (go_at_call 84;refine HAB.out.mono ?_;rintro e w3 ⟨rfl,y3,hH3,hK3⟩;(have HF:Hid (zAe w3 n c g y3 (zBz s (ids.take (i+1)))/\zAm w y w3 y3):=⟨by rw [HSN.out,HW1.out];exact hH3,HK.out.trans hK3⟩);clear hH3 hK3)
     | fail)
    go_roundw
    case rel=>exact ⟨i+1,y3,by omega,by go_num,HF.out.1,HF.out.2⟩
    case measure=>simp [intOf];omega
   ·have hsb:(((zBz s (ids.take i)).tx id).state == 1)=false:=by simpa using hs1
    have HW1:Hid (wound1 (zBz s (ids.take i)) id=zBz s (ids.take i)):=by unfold Hid wound1;rw [Int.toNat_natCast,if_neg hs1]
    clear hs1
    go_wp2_with (first
     | (go_at_call 72;refine HT.out.mono ?_;rintro e w2 ⟨rfl,rfl⟩)
     | fail)
    go_roundw
    case rel=>exact ⟨i+1,yr,by omega,by go_num,by rw [HSN.out,HW1.out];exact HHr.out,HK.out⟩
    case measure=>simp [intOf];omega
  ·obtain rfl:i=ids.length:=by omega
   rw [List.take_length] at hH
   have HF:Hid (∃ y',zAe wr n c g y' (zBz s ids)/\zAm w y wr y'):=⟨yr,hH,hK⟩
   clear hH hK
   go_wp2_with fail
   go_end0
   exact ⟨rfl,HF.out⟩
def zEu(s:zAa)(id:Int)(key:ByteArray)(m:Nat):List Int:=((List.range m).map fun (i:Nat)=>(i:Int)+1).filter fun o=>decide (o≠id) && decide (zCw (s.keys key).held o≠0)
theorem yAf(s:zAa)(id:Int)(key:ByteArray)(m:Nat):zEu s id key (m+1)=if ((m:Int)+1≠id/\zCw (s.keys key).held ((m:Int)+1)≠0) then zEu s id key m++[(m:Int)+1] else zEu s id key m:=by
 unfold zEu
 rw [List.range_succ,List.map_append,List.filter_append]
 by_cases h1:(m:Int)+1≠id <;> by_cases h2:zCw (s.keys key).held ((m:Int)+1)≠0 <;> simp [h1,h2]
theorem zNh(s:zAa)(id:Int)(key:ByteArray)(m:Nat):(zEu s id key m).length<=m:=by
 refine Nat.le_trans (List.length_filter_le _ _) ?_
 simp
theorem zKg{s:zAa}{id o:Int}{key:ByteArray}(h:o∈zDa s id key):1<=o/\o<=(s.txs.length:Int):=by
 obtain ⟨h1,_⟩:=List.mem_filter.1 h
 obtain ⟨i,hi,rfl⟩:=List.mem_map.1 h1
 have:=List.mem_range.1 hi
 omega
theorem zAe.holds{w:World}{n c g:Nat}{y:HLay}{s:zAa}(h:zAe w n c g y s)(t:Int)(key:ByteArray)(hk:okQ key) :
  Calls Tryz.prog 121 #[.pointer (some ⟨g,5,none⟩),.int .i64 t,.string key] w fun e w'=>e=.returned (.int .i64 (zCw (s.keys key).held t))/\Mod zAb w w':=
 yMd n 120 (y.tb g s.net.lost) s.keys t key w h.tabP hk (by omega)
theorem zVd(n c g:Nat)(y:HLay)(s:zAa)(id:Int)(key:ByteArray)(w:World)(h:zAe w n c g y s)(hl:s.txs.length<=60)(hk:okQ key) :
  Calls Tryz.prog 118 #[.pointer (some ⟨g,0,none⟩),.int .i64 id,.string key] w fun e w'=>∃ u,e=.returned u/\RowI w' w.heap.size u (zDa s id key)/\Mod zAb w w':=by
 obtain ⟨j0,hj,jz0,jz1,jz2⟩:=info_parts Tryz.infoIQ
 have HR0:Hid (RowI w w.heap.size (.slice none 0 0) []):=World.ownsRow_nil _ _ _ _
 have HH:=Hmq h
 clear h
 go_enter Tryz.func118,Tryz.ntmps118
 go_wp2_with fail
 go_loopw [7,8] (fun u i wr=>∃ k:Nat,k<=s.txs.length/\i=.int .i64 ((k:Int)+1)/\RowI wr w.heap.size u (zEu s id key k)/\Mod zAb w wr) (fun _ i _=>s.txs.length+1 - (intOf i).toNat)
 case atStart=>exact ⟨0,Nat.zero_le _,rfl,HR0.out,Mod.refl _ _⟩
 case round=>
  obtain ⟨k,hkl,rfl,hrow,hM⟩:=hrel
  obtain ⟨ua,ucap,rfl⟩:=zAg hrow
  have hhr:=HH.out.quiet hM
  obtain ⟨-,-,-,-,-,-,c6⟩:=blkH hhr.blk
  obtain ⟨ta,tcap,htv⟩:=zAg hhr.trow
  rw [htv,hhr.tlen] at c6
  have HM:=Hmq hM
  have HROW:=Hmq hrow
  have HHO:=Hmq (hhr.holds ((k:Int)+1) key hk)
  have hlk:=zNh s id key k
  have HSU:=Hmq (yAf s id key k)
  clear hrow hM HR0 hhr htv
  by_cases hlt:k<s.txs.length
  ·have hle:decide ((k:Int)+1<=(s.txs.length:Int))=true:=decide_eq_true (by omega)
   by_cases he:(k:Int)+1=id
   ·have heb:(((k:Int)+1) != id)=false:=by simpa using he
    have HN:Hid (zEu s id key (k+1)=zEu s id key k):=by unfold Hid;rw [HSU.out,if_neg (fun q=>q.1 he)]
    clear he HSU HHO
    go_wp2_with fail
    go_roundw
    case rel=>exact ⟨k+1,by omega,by go_num,by rw [HN.out];exact HROW.out,HM.out⟩
    case measure=>simp [intOf];omega
   ·have heb:(((k:Int)+1) != id)=true:=by simpa using he
    by_cases hmo:zCw (s.keys key).held ((k:Int)+1)=0
    ·have hmb:(zCw (s.keys key).held ((k:Int)+1) != 0)=false:=by simpa using hmo
     have HN:Hid (zEu s id key (k+1)=zEu s id key k):=by unfold Hid;rw [HSU.out,if_neg (fun q=>q.2 hmo)]
     clear he HSU hmo
     go_wp2_with (first
      | (go_at_call 121;refine HHO.out.mono ?_;rintro e w2 ⟨rfl,hm2⟩;have HM2:=Hmq (HM.out.trans hm2);have HR2:=Hmq (HROW.out.mod hm2 (fun _ _ e=>e));clear hm2)
      | fail)
     go_roundw
     case rel=>exact ⟨k+1,by omega,by go_num,by rw [HN.out];exact HR2.out,HM2.out⟩
     case measure=>simp [intOf];omega
    ·have hmb:(zCw (s.keys key).held ((k:Int)+1) != 0)=true:=by simpa using hmo
     have HN:Hid (zEu s id key (k+1)=zEu s id key k++[(k:Int)+1]):=by unfold Hid;rw [HSU.out,if_pos ⟨he,hmo⟩]
     have hk63:(zEu s id key k).length+1<=maxLen:=by unfold maxLen;omega
     have hk47:((zEu s id key k).length+1)*8<=140737488355328:=by omega
     clear he HSU hmo
     go_upto_region 6 with (first
      | (go_at_call 121;refine HHO.out.mono ?_;rintro e w2 ⟨rfl,hm2⟩;have HM2:=Hmq (HM.out.trans hm2);have HR2:Hid (w2.ownsRow w.heap.size 3 1 (.slice ua (zEu s id key k).length ucap) (zEu s id key k).length (zHp (zEu s id key k))):=HROW.out.mod hm2 (fun _ _ e=>e);clear hm2)
      | fail)
     have hz2:=HM2.out.size
     go_wp2_with (first
      | (at_builtin;refine wpList_append_own_at _ rfl (.tmp 30) (.tmp 32) 94 rfl w.heap.size 3 j0 _ 1 8 Tryz.underlying94 hj jz0 jz1 jz2 rfl (by decide) _ _ _ rfl (HR2.out.alloc _) ⟨w2.heap.size,0,none⟩ 1 1 [.int .i64 ((k:Int)+1)] rfl rfl (World.news_of_block (heap_alloc_new w2 _)) (by simp [Value.oneCell']) hk63 hk47 (by simp;omega) ?_)
      | fail)
     intro v7 w7 hown7 hgrow7 _ hat7
     have hm7:Mod zAb w w7:=(HM2.out.alloc _).grown hgrow7 (fun y hy hlt=>by have:=(zAq HR2.out hy).1;omega)
     obtain ⟨a7,cap7,hv7⟩:=zAg hown7
     subst hv7
     have HW7:=Hmq hown7
     have HM7:=Hmq hm7
     clear hown7 hgrow7 hat7 hm7
     go_wp2_with fail
     go_roundw
     case rel=>
      refine ⟨k+1,by omega,by go_num,?_,HM7.out⟩
      rw [HN.out]
      unfold RowI
      rw [zMw,List.length_append]
      exact HW7.out
     case measure=>simp [intOf];omega
  ·obtain rfl:k=s.txs.length:=by omega
   have hle:decide (((s.txs.length:Nat):Int)+1<=(s.txs.length:Int))=false:=decide_eq_false (by omega)
   clear HSU HHO
   go_wp2_with fail
   go_ret
   exact ⟨_,rfl,HROW.out,HM.out⟩
theorem yGp(n c g q1 q2:Nat)(y:HLay)(s:zAa)(id o:Int)(w:World)(h:zAe w n c g y s)(hl:s.txs.length<=60)(ho:1<=o/\o<=(s.txs.length:Int))(h1:w.cell? ⟨q1,0,none⟩=some (.int .i64 id))(h2:w.cell? ⟨q2,0,none⟩=some (.pointer (some ⟨g,0,none⟩))) :
  Calls Tryz.prog 116 #[.int .i64 o,.pointer (some ⟨q1,0,none⟩),.pointer (some ⟨q2,0,none⟩)] w fun e w'=>e=.returned (.bool (decide (o<id) || decide ((s.tx o.toNat).state≠1)))/\Mod zAb w w':=by
 obtain ⟨i,rfl⟩:∃ i:Nat,o=i:=⟨o.toNat,by omega⟩
 rw [Int.toNat_natCast]
 obtain ⟨b,hb,hT⟩:=h.txQ (id:=i) (by omega) (by omega)
 have HT:=Hmq (zHy n c g y s i b w h (by omega) (by omega) hb)
 have t0:=hT.blk.cell 0 rfl
 clear h hT hb
 by_cases hlt:(i:Int)<id
 ·have hd:decide ((i:Int)<id)=true:=decide_eq_true hlt
  clear hlt
  go_enter Tryz.func116,Tryz.ntmps116
  go_wp2_with fail
  go_ret
  exact ⟨by rw [hd];rfl,Mod.refl _ _⟩
 ·have hd:decide ((i:Int)<id)=false:=decide_eq_false hlt
  by_cases hs:(s.tx i).state=1
  ·have hsb:((s.tx i).state != 1)=false:=by simpa using hs
   have HD:Hid (decide ((s.tx i).state≠1)=false):=decide_eq_false (fun q=>q hs)
   clear hlt hs
   go_enter Tryz.func116,Tryz.ntmps116
   go_wp2_with (first
    | (go_at_call 72;refine HT.out.mono ?_;rintro e w2 ⟨rfl,rfl⟩)
    | fail)
   go_ret
   exact ⟨by rw [hd,HD.out];rfl,Mod.refl _ _⟩
  ·have hsb:((s.tx i).state != 1)=true:=by simpa using hs
   have HD:Hid (decide ((s.tx i).state≠1)=true):=decide_eq_true hs
   clear hlt hs
   go_enter Tryz.func116,Tryz.ntmps116
   go_wp2_with (first
    | (go_at_call 72;refine HT.out.mono ?_;rintro e w2 ⟨rfl,rfl⟩)
    | fail)
   go_ret
   exact ⟨by rw [hd,HD.out];rfl,Mod.refl _ _⟩
theorem zYu(n c g:Nat)(y:HLay)(s:zAa)(id:Int)(key:ByteArray)(w:World)(h:zAe w n c g y s)(hl:s.txs.length<=60)(hk:okQ key) :
  Calls Tryz.prog 74 #[.pointer (some ⟨g,0,none⟩),.int .i64 id,.string key] w fun e w'=>e=.returned (.bool (zEc s id key))/\Mod zAb w w':=by
 obtain ⟨w1,hw1⟩:∃ x,x=w.alloc (.cells #[.pointer (some ⟨g,0,none⟩)] 42):=⟨_,rfl⟩
 obtain ⟨w2,hw2⟩:∃ x,x=w1.alloc (.cells #[.int .i64 id] 3):=⟨_,rfl⟩
 have hm1:Mod zAb w w1:=by rw [hw1];exact (Mod.refl _ w).alloc _
 have hm2:Mod zAb w1 w2:=by rw [hw2];exact (Mod.refl _ w1).alloc _
 have hz1:w1.heap.size=w.heap.size+1:=by rw [hw1,World.size_alloc]
 have hb1:Blk w2 w.heap.size [.pointer (some ⟨g,0,none⟩)] 42:=Blk.mod (by rw [hw1];exact Blk.new w _ _) hm2 (fun e=>e)
 have hb2:Blk w2 (w.heap.size+1) [.int .i64 id] 3:=by rw [<-hz1,hw2];exact Blk.new w1 _ _
 have hm:=hm1.trans hm2
 have hh2:=h.quiet hm
 have x1:=hb1.cell 0 rfl
 have x2:=hb2.cell 0 rfl
 have HOT:=Hmq (zVd n c g y s id key w2 hh2 hl hk)
 have hmf:∀ fn first cap w,(Instr.makeFunc fn first cap).run Tryz.prog w=.ok (.func fn first cap) w:=fun _ _ _ _=>rfl
 have HH:=Hmq hh2
 have HM:=Hmq hm
 have HX1:=Hmq x1
 have HX2:=Hmq x2
 clear h hm1 hm2 hb1 hb2 hm hh2 hz1
 go_enter Tryz.func74,Tryz.ntmps74
 go_upto_region 1 with fail
 rw [<-hw1,<-hw2]
 clear hw1 hw2
 go_wp2_with fail
 refine HOT.out.mono ?_
 rintro e w3 ⟨u,rfl,hu,hm3⟩
 have HA:AskG 116 #[.pointer (some ⟨w.heap.size+1,0,none⟩),.pointer (some ⟨w.heap.size,0,none⟩)] (fun d=>.int .i64 d) (zDa s id key) (fun o=>decide (o<id) || decide ((s.tx o.toNat).state≠1)) (fun wr=>zAe wr n c g y s/\wr.cell? ⟨w.heap.size+1,0,none⟩=some (.int .i64 id)/\wr.cell? ⟨w.heap.size,0,none⟩=some (.pointer (some ⟨g,0,none⟩))):=
  ⟨zJz Tryz.func116 (by kernel_rfl) rfl,fun wa wb hh hm=>⟨hh.1.quiet hm,hm.cell hh.2.1 (fun e=>e),hm.cell hh.2.2 (fun e=>e)⟩,fun d hd wr hh=>yGp n c g _ _ y s id d wr hh.1 hl (zKg hd) hh.2.1 hh.2.2⟩
 have hlen:(zDa s id key).length<=60:=Nat.le_trans (zNh s id key s.txs.length) hl
 have HCN:=Hmq (zUe 116 w3.heap.size _ _ u (zDa s id key) w3 _ (zXl hu) HA ⟨HH.out.quiet hm3,hm3.cell HX2.out (fun e=>e),hm3.cell HX1.out (fun e=>e)⟩ (by omega))
 obtain ⟨ua,uc,hua⟩:=zAg hu
 subst hua
 have HM3:=Hmq (HM.out.trans hm3)
 clear hu HA hm3 HOT
 go_wp2_with fail
 refine HCN.out.mono ?_
 rintro e w4 ⟨rfl,hm4⟩
 have HY:Hid (zEc s id key=!((zDa s id key).any fun o=>decide (o<id) || decide ((s.tx o.toNat).state≠1))):=rfl
 cases hb:(zDa s id key).any fun o=>decide (o<id) || decide ((s.tx o.toNat).state≠1)
 all_goals
  rw [hb] at HY
  go_wp2_with fail
  go_ret
  exact ⟨by rw [HY.out];rfl,HM3.out.trans hm4⟩
theorem TxP.toV{w:World}{n b:Nat}{y:HLay}{t:TxS}(h:TxP w n y b t):SlR w w.heap.size 3 zXn (y.twv b) t.writes:=yAc h.wr
theorem yGq(q:Nat)(d:zAz)(key:ByteArray)(w:World)(h1:w.cell? ⟨q,0,none⟩=some (.string key)) :
  Calls Tryz.prog 173 #[.agg #[.string d.key,.string d.val,.bool d.gone],.pointer (some ⟨q,0,none⟩)] w fun e w'=>e=.returned (.bool (decide (d.key=key)))/\Mod zAb w w':=by
 obtain ⟨k,v,gn⟩:=d
 dsimp only
 obtain ⟨w1,hw1⟩:∃ z,z=w.alloc (.cells #[.string k,.string v,.bool gn] 65):=⟨_,rfl⟩
 have hm1:Mod zAb w w1:=by rw [hw1];exact (Mod.refl _ w).alloc _
 have hb1:Blk w1 w.heap.size [.string k,.string v,.bool gn] 65:=by rw [hw1];exact Blk.new w _ _
 have g1:=hm1.cell h1 id
 have b0:=hb1.cell 0 rfl
 have HM:=Hmq hm1
 clear h1 hb1 hm1
 by_cases e:k=key
 ·have eb:(k.toList == key.toList)=true:=by rw [e];simp
  have HD:Hid (decide (k=key)=true):=decide_eq_true e
  clear e
  go_enter Tryz.func173,Tryz.ntmps173
  go_upto_region 1 with fail
  rw [<-hw1]
  clear hw1
  go_wp2_with fail
  go_ret
  exact ⟨by rw [HD.out];first | rfl | (simp [eb]),HM.out⟩
 ·have eb:(k.toList == key.toList)=false:=by
   rw [beq_eq_false_iff_ne]
   intro q
   rw [ByteArray.toList_eq,ByteArray.toList_eq] at q
   exact e (zMm q)
  have HD:Hid (decide (k=key)=false):=decide_eq_false e
  clear e
  go_enter Tryz.func173,Tryz.ntmps173
  go_upto_region 1 with fail
  rw [<-hw1]
  clear hw1
  go_wp2_with fail
  go_ret
  exact ⟨by rw [HD.out];first | rfl | (simp [eb]),HM.out⟩
theorem zRj(n b:Nat)(y:HLay)(t:TxS)(key:ByteArray)(w:World)(h:TxP w n y b t)(hl:t.writes.length<=1000) :
  Calls Tryz.prog 115 #[.pointer (some ⟨b,0,none⟩),.string key] w fun e w'=>e=.returned (.int .i64 (idxI (zJk t key)))/\Mod zAb w w':=by
 obtain ⟨w1,hw1⟩:∃ z,z=w.alloc (.cells #[.string key] 9):=⟨_,rfl⟩
 have hm1:Mod zAb w w1:=by rw [hw1];exact (Mod.refl _ w).alloc _
 have hb1:Blk w1 w.heap.size [.string key] 9:=by rw [hw1];exact Blk.new w _ _
 have h1:=h.mod hm1 (fun e=>e) (fun _ _ e=>e)
 have c2:=h1.blk.cell 2 rfl
 obtain ⟨a,cap,hv⟩:=zAg h1.wr
 have HA:AskG 173 #[.pointer (some ⟨w.heap.size,0,none⟩)] (fun d=>.agg #[.string d.key,.string d.val,.bool d.gone]) t.writes (fun p=>decide (p.key=key)) (fun wr=>wr.cell? ⟨w.heap.size,0,none⟩=some (.string key)):=
  ⟨zJz Tryz.func173 (by kernel_rfl) rfl,fun wa wb hh hm=>hm.cell hh (fun e=>e),fun d hd wr hh=>yGq _ d key wr hh⟩
 have HIX:=Hmq (zSo 173 w1.heap.size _ _ (y.twv b) t.writes w1 _ h1.toV HA (hb1.cell 0 rfl) (by omega))
 rw [hv] at c2 HIX
 have hmf:∀ fn first cap w,(Instr.makeFunc fn first cap).run Tryz.prog w=.ok (.func fn first cap) w:=fun _ _ _ _=>rfl
 have HM:=Hmq hm1
 clear h h1 hv HA hb1 hm1
 go_enter Tryz.func115,Tryz.ntmps115
 go_upto_region 1 with fail
 rw [<-hw1]
 clear hw1
 go_wp2_with fail
 refine HIX.out.mono ?_
 rintro e w3 ⟨rfl,hm3⟩
 go_wp2_with fail
 go_ret
 exact ⟨rfl,HM.out.trans hm3⟩
theorem yQx(n b:Nat)(y:HLay)(t:TxS)(key:ByteArray)(w:World)(h:TxP w n y b t)(hl:t.writes.length<=1000) :
  Calls Tryz.prog 73 #[.pointer (some ⟨b,0,none⟩),.string key] w fun e w'=>e=.returned (.bool (zMr t key))/\Mod zAb w w':=by
 have HW:=Hmq (zRj n b y t key w h hl)
 have c2:=h.blk.cell 2 rfl
 obtain ⟨a,cap,hv⟩:=zAg h.wr
 rw [hv] at c2
 clear h hv
 by_cases hf:20<=t.writes.length
 ·have hd:decide ((t.writes.length:Int) ≥ 20)=true:=decide_eq_true (by omega)
  have HF:Hid (zMr t key=(zJk t key).isNone):=by unfold Hid zMr;rw [decide_eq_true hf];rfl
  cases hw:zJk t key with
  | none=>
   rw [hw] at HW HF
   simp only [idxI] at HW
   clear hf
   go_enter Tryz.func73,Tryz.ntmps73
   go_wp2_with (first
    | (go_at_call 115;refine HW.out.mono ?_;rintro e w2 ⟨rfl,hm2⟩)
    | fail)
   go_ret
   exact ⟨by rw [HF.out];rfl,hm2⟩
  | some k=>
   rw [hw] at HW HF
   simp only [idxI] at HW
   have hk:decide ((k:Int)<0)=false:=decide_eq_false (by omega)
   clear hf
   go_enter Tryz.func73,Tryz.ntmps73
   go_wp2_with (first
    | (go_at_call 115;refine HW.out.mono ?_;rintro e w2 ⟨rfl,hm2⟩)
    | fail)
   go_ret
   exact ⟨by rw [HF.out];rfl,hm2⟩
 ·have hd:decide ((t.writes.length:Int) ≥ 20)=false:=decide_eq_false (by omega)
  have HF:Hid (zMr t key=false):=by unfold Hid zMr;rw [decide_eq_false hf];rfl
  clear hf HW
  go_enter Tryz.func73,Tryz.ntmps73
  go_wp2_with fail
  go_ret
  exact ⟨by rw [HF.out];rfl,Mod.refl _ _⟩
end Go.Proofs.YtogaigioeohjaaaGreatDoor
