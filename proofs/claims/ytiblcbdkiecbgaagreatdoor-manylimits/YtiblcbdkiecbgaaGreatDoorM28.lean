import Derived.Test.YtiblcbdkiecbgaaGreatDoorM27
set_option linter.unusedVariables false
set_option maxRecDepth 100000
set_option maxHeartbeats 16000000
namespace Go.Proofs.YtiblcbdkiecbgaaGreatDoor
open Go.RowKit Go.Lib Go.Maps
def bytesAt(w:World)(k:Nat):Prop:=∃ c fz,w.heap[k]?=some (.cells c 5 fz)
theorem notBytes{w:World}{k:Nat}{c:Array Value}{t:TypeId}{fz:Nat × Nat}(h:w.heap[k]?=some (.cells c t fz))(ht:t≠5):¬ bytesAt w k:=by
 rintro ⟨c',fz',h'⟩
 rw [h] at h'
 simp at h'
 exact ht h'.2.1
theorem notBytesM{w:World}{k:Nat}{es:Array MapEntry}{clock:Nat}(h:w.heap[k]?=some (.map es clock)):¬ bytesAt w k:=by
 rintro ⟨c',fz',h'⟩
 rw [h] at h'
 simp at h'
open Classical in
noncomputable def HLay.strip(y:HLay)(w:World):HLay:={ y with own:=fun k=>if bytesAt w k then .no else y.own k }
theorem strip_own{y:HLay}{w:World}{k:Nat}(h:¬ bytesAt w k):(y.strip w).own k=y.own k:=if_neg h
theorem strip_bytes{y:HLay}{w:World}{k:Nat}(h:bytesAt w k):(y.strip w).own k=.no:=if_pos h
theorem strip_no{y:HLay}{w:World}{k:Nat}(h:y.own k=.no):(y.strip w).own k=.no:=by
 by_cases q:bytesAt w k
 ·exact strip_bytes q
 ·rw [strip_own q];exact h
theorem strip_ne{y:HLay}{w:World}{k:Nat}(h:(y.strip w).own k≠.no):y.own k≠.no/\¬ bytesAt w k:=by
 by_cases q:bytesAt w k
 ·exact absurd (strip_bytes q) h
 ·exact ⟨by rw [strip_own q] at h;exact h,q⟩
theorem HouseP.strip{w:World}{n c g:Nat}{y:HLay}{s:HouseS}(h:HouseP w n c g y s):HouseP w n c g (y.strip w) s:=by
 have row:∀ {v:Value} {e:TypeId} {sz m:Nat} {xs:List Value},w.ownsRow n e sz v m xs->e≠5->∀ k,v.ownBlock=some k->¬ bytesAt w k:=fun ho he k hk=>by
  obtain ⟨_,_,cur,hc⟩:=own_cells ho hk
  exact notBytes hc he
 have own:=h.own
 refine ⟨h.blk,h.net,h.dead,h.tab,h.qn,h.lrow,h.llen,fun k b l hb hl=>(have q:=h.line k b l hb hl;⟨q.blk,q.row,q.len,q.node⟩),h.trow,h.tlen,fun i b t hb ht=>(have q:=h.tx i b t hb ht;⟨q.blk,q.ats,q.wr⟩),⟨?_,fun k hk=>?_,fun k hk=>?_,fun k hk=>?_,?_,fun k hk=>?_,fun b hb=>?_,fun b hb d hd k hk=>?_,fun b hb=>?_,fun k hk=>own.lt k (strip_ne hk).1,own.lnd,own.tnd,own.nnd⟩⟩
 ·rw [strip_own (notBytes h.blk (by decide))];exact own.main
 ·rw [strip_own (row h.lrow (by decide) k hk)];exact own.lrow k hk
 ·rw [strip_own (row h.trow (by decide) k hk)];exact own.trow k hk
 ·have:¬ bytesAt w k:=by
   rcases hk with hk | hk
   ·obtain ⟨us,_,ho,_⟩:=h.net.row
    exact row ho (by decide) k hk
   ·rcases h.net.dn with ⟨e,_⟩ | ⟨b,D,e,_,⟨es,clock,hb,_⟩,_⟩
    ·have hk':y.mr=some k:=hk
     have e':y.mr=none:=e
     rw [e'] at hk';cases hk'
    ·have hk':y.mr=some k:=hk
     have e':y.mr=some b:=e
     rw [e'] at hk';cases hk'
     exact notBytesM hb
  rw [strip_own this];exact own.net k hk
 ·have:¬ bytesAt w y.dr:=by
   rcases h.dead with ⟨e,_⟩ | ⟨b,D,e,_,⟨es,clock,hb,_⟩,_⟩
   ·cases e
   ·cases e;exact notBytesM hb
  show (y.strip w).own y.dr=_
  rw [strip_own this];exact own.dead
 ·have:¬ bytesAt w k:=by
   rcases hk with hk | ⟨key,i,hok,hk⟩
   ·have hm:=h.tab.map
    have hk':y.q.m=some k:=hk
    unfold MapQ at hm
    rw [hk'] at hm
    obtain ⟨_,D,⟨es,clock,hb,_⟩,_⟩:=hm
    exact notBytesM hb
   ·exact row (h.tab.rows key i hok) (by decide) k hk
  rw [strip_own this];exact own.tab k hk
 ·obtain ⟨i,hi⟩:=List.getElem?_of_mem hb
  have hil:i<s.lines.length:=by rw [<-h.llen];exact (List.getElem?_eq_some_iff.1 hi).1
  have hL:=h.line i b _ hi (List.getElem?_eq_getElem hil)
  obtain ⟨o1,o2⟩:=own.line b hb
  refine ⟨?_,fun k hk=>?_⟩
  ·rw [strip_own (notBytes hL.blk (by decide))];exact o1
  ·rw [strip_own (row hL.row (by decide) k hk)];exact o2 k hk
 ·obtain ⟨i,hi⟩:=List.getElem?_of_mem hb
  have hil:i<s.lines.length:=by rw [<-h.llen];exact (List.getElem?_eq_some_iff.1 hi).1
  have hL:=h.line i b _ hi (List.getElem?_eq_getElem hil)
  obtain ⟨j,hj⟩:=List.getElem?_of_mem hd
  have hjl:j<(s.lines[i]).nodes.length:=by rw [<-hL.len];exact (List.getElem?_eq_some_iff.1 hj).1
  have hN:=hL.node j d _ hj (List.getElem?_eq_getElem hjl)
  have:¬ bytesAt w k:=by
   rcases hk with rfl | hk | hk
   ·exact notBytes hN.blk (by decide)
   ·exact row hN.ns (by decide) k hk
   ·obtain ⟨us,_,ho,_⟩:=hN.lg
    exact row ho (by decide) k hk
  rw [strip_own this];exact own.node b hb d hd k hk
 ·obtain ⟨i,hi⟩:=List.getElem?_of_mem hb
  have hil:i<s.txs.length:=by rw [<-h.tlen];exact (List.getElem?_eq_some_iff.1 hi).1
  have hT:=h.tx i b _ hi (List.getElem?_eq_getElem hil)
  obtain ⟨o1,o2⟩:=own.tx b hb
  refine ⟨?_,fun k hk=>?_⟩
  ·rw [strip_own (notBytes hT.blk (by decide))];exact o1
  ·have:¬ bytesAt w k:=hk.elim (fun q=>row hT.ats (by decide) k q) (fun q=>row hT.wr (by decide) k q)
   rw [strip_own this];exact o2 k hk
theorem SesP.strip{w:World}{ss mb n c g:Nat}{y:HLay}{s:HouseS}(h:SesP w ss mb n c g y s):SesP w ss mb n c g (y.strip w) s:=
 ⟨h.blk,h.map,h.house.strip,strip_no h.nos,strip_no h.nom,h.n7,h.lo,h.vd⟩
def bldG(w:World)(B b k:Nat):Prop:=B<=k/\(k=b\/bytesAt w k)
theorem bld_mod{w w':World}{B b:Nat}(h:Below B w w')(hk:Lib.OthersKept 5 (some b) w w'):Mod (bldG w B b) w w':=by
 refine ⟨h.os,h.tape,h.output,h.size,fun k hkl hG=>?_⟩
 by_cases hB:B<=k
 ·have e:w.heap[k]?=some w.heap[k]:=Array.getElem?_eq_getElem hkl
  rw [e]
  refine hk k _ e (fun q=>hG ⟨hB,.inl (by simpa using q)⟩) (fun c fz q=>hG ⟨hB,.inr ⟨c,fz,by rw [e,q]⟩⟩)
 ·exact h.block k (by omega)
theorem SesP.built{w w':World}{ss mb n c g B b:Nat}{y:HLay}{s:HouseS}{cs:List Value}{t:TypeId}(h:SesP w ss mb n c g (y.strip w) s)(hb:Blk w b cs t)(ht:t≠121)(hno:y.own b=.no)(hs:b≠ss)(hm:b≠mb)(h7:7<=B)(hM:Mod (bldG w B b) w w'):SesP w' ss mb n c g (y.strip w) s:=by
 have hnob:∀ k,bldG w B b k->(y.strip w).own k=.no:=fun k q=>q.2.elim (fun e=>by rw [e];exact strip_no hno) strip_bytes
 refine ⟨h.blk.mod hM (fun q=>q.2.elim (fun e=>hs e.symm) (notBytes h.blk (by decide))),h.map.mod hM (fun q=>q.2.elim (fun e=>hm e.symm) ?_),h.house.beside hM (fun k hk q=>?_) (fun k hk q=>hnob k q),h.nos,h.nom,h.n7,h.lo,h.vd.mod hM (fun k hk q=>?_)⟩
 ·obtain ⟨es,clock,hq,_⟩:=h.map
  exact notBytesM hq
 ·have h7':n<=k:=by have:=q.1;have:=h.n7;omega
  rcases q.2 with e | ⟨cur,fz,hc⟩
  ·rw [e] at h7' ⊢;exact notSt hb ht h7'
  ·exact notSt hc (by decide) h7'
 ·have:=q.1
  omega
theorem bldF_mod{G:Nat->Prop}{w w':World}{B b:Nat}{bs:List Value}(h:Lib.IsBuilderF 55 5 B b bs w)(hm:Mod G w w')(hb:¬ G b)(hr:∀ k,bytesAt w k->¬ G k):Lib.IsBuilderF 55 5 B b bs w':=by
 have key:∀ p,Lib.BuilderAtF 55 5 B b p bs w->Lib.BuilderAtF 55 5 B b p bs w':=by
  rintro p ⟨h1,v,h2,⟨h3,h4⟩,h5⟩
  refine ⟨h1,v,(hm.block b (Array.getElem?_eq_some_iff.1 h2).1 hb).trans h2,⟨h3,?_⟩,h5⟩
  rcases h4 with h4 | ⟨r,cap,cur,fz,q1,q2,q3,q4⟩
  ·exact .inl h4
  ·exact .inr ⟨r,cap,cur,fz,q1,q2,(hm.block r (Array.getElem?_eq_some_iff.1 q3).1 (hr r ⟨cur,fz,q3⟩)).trans q3,q4⟩
 exact h.elim (fun q=>.inl (key _ q)) (fun q=>.inr (key _ q))
theorem bldF_blk{w:World}{B b:Nat}{bs:List Value}(h:Lib.IsBuilderF 55 5 B b bs w):∃ cs,Blk w b cs 55:=by
 rcases h with ⟨_,v,h2,_⟩ | ⟨_,v,h2,_⟩
 ·exact ⟨[_,v],h2⟩
 ·exact ⟨[_,v],h2⟩
def firstL:ByteArray:=⟨#[110,101,119,32,50,32,51]⟩
def firstW:List ByteArray:=[⟨#[110,101,119]⟩,⟨#[50]⟩,⟨#[51]⟩]
theorem first_words:wordsD firstL=firstW:=by decide +kernel
theorem first_ord:ordOf ⟨#[110,101,119]⟩=some (53,2):=by decide +kernel
theorem num_at{d:UInt8}{v:Nat}(e:Lib.decDigits v=[d]):strB (Lib.itoa (v:Int))=⟨#[d]⟩:=by
 unfold Lib.itoa
 rw [if_neg (by omega),Int.toNat_natCast,e]
 rfl
theorem first_any{w:World}{ss mb:Nat}(h:BareP w ss mb):Calls Tryz.prog 16 #[.pointer (some ⟨ss,0,none⟩),.string firstL] w fun e w'=>
  (∃ t,e=.returned (.string t))/\(∃ g y,SesP w' ss mb 7 0 g y (newH 2 3)/\∀ k,k<=w.heap.size->y.own k=.no)/\Mod (oneBlock ss) w w':=by
 obtain ⟨hv,hb⟩:=h.blk
 have hlt:=hb.lt
 have hltm:=World.ownsMap.lt h.map
 refine (answer_do firstL (by decide) firstW (by decide) first_words ⟨#[110,101,119]⟩ rfl (by decide) hb h.map first_ord (by decide) ⟨#[110,101,119]⟩
  (Z:=fun A w1 w2=>(∃ g y,SesP w2 ss mb 7 0 g y (newH 2 3)/\∀ k,k<w1.heap.size->y.own k=.no)/\Mod (oneBlock ss) w1 w2) ?_ ?_).mono ?_
 ·rintro A w1 w2 ⟨⟨g,y,hP,_⟩,hm⟩ hm1
  exact fun old hq=>hq.mod hm (fun e=>by have e':w.heap.size=ss:=e;omega)
 ·intro A w1 hm1 hA hA1 hc
  refine (drenew_num (A:=A) (v:=2) (u:=3) ⟨#[110,101,119]⟩ ⟨#[50]⟩ ⟨#[51]⟩ (h.quiet hm1) (by decide) (by decide) (by omega) (by decide) (by decide) (by decide +kernel) (by decide +kernel) (num_at (Lib.decDigits_one (by decide))) (num_at (Lib.decDigits_one (by decide))) (hc 0 _ rfl) (hc 1 _ rfl) (hc 2 _ rfl)).mono ?_
  rintro e w2 ⟨rfl,⟨g,y,hP,hno⟩,hm2⟩
  exact ⟨rfl,⟨g,y,hP,hno⟩,hm2⟩
 ·rintro e w' ⟨rfl,A,w1,w2,v,hm1,hb1,⟨⟨g,y,hP,hno⟩,hm2⟩,rfl⟩
  have hb2:Blk w2 w.heap.size [.string ⟨#[]⟩] 9:=hb1.mod hm2 (fun e=>by have e':w.heap.size=ss:=e;omega)
  have hl1:=hb1.lt
  refine ⟨⟨_,rfl⟩,⟨g,y,hP.side hb2 (by decide) (hno _ hl1) (by omega) (by omega) h.vd.sz v,fun k hk=>hno k (by omega)⟩,?_⟩
  have hA:Mod (oneBlock ss) w w2:=(hm1.mono (fun _ _ e=>e.elim)).trans' hm2 (fun k _ e=>e)
  exact hA.setCell (fun e=>(Nat.lt_irrefl _ e).elim) v
def AnsOK(line t:ByteArray)(s':HouseS):Prop:=∀ {w:World} {ss mb c g:Nat} {y:HLay},SesP w ss mb 7 c g y (newH 2 3)->ss≠mb ->
 Calls Tryz.prog 16 #[.pointer (some ⟨ss,0,none⟩),.string line] w fun e w'=>e=.returned (.string t)/\∃ c' g' y',SesP w' ss mb 7 c' g' y' s'/\Mod (ses ss y) w w'/\∀ k,k<w.heap.size->y.own k=.no->y'.own k=.no
theorem line_blank:AnsOK ⟨#[]⟩ ⟨#[111,107]⟩ (newH 2 3):=by
 intro w ss mb c g y h hne
 refine (answer_blank ⟨#[]⟩ (by decide) (by decide +kernel)).mono ?_
 rintro e w' ⟨rfl,hm⟩
 exact ⟨rfl,c,g,y,h.quiet hm,hm.mono (fun _ _ e=>e.elim),fun _ _ e=>e⟩
theorem new23:(2<=(newH 2 3).lines.length/\(newH 2 3).lines.length<=5)/\(newH 2 3).txs.length=0:=by decide +kernel
theorem line_begin:AnsOK ⟨#[98,101,103,105,110]⟩ ⟨#[49]⟩ (beginH (newH 2 3)):=by
 intro w ss mb c g y h hne
 have hlt:=h.blk.lt
 have hltm:=World.ownsMap.lt h.map
 have hb0:y.own w.heap.size=.no:=h.nobody (Nat.le_refl _)
 have e1:strB (Lib.itoa ((newH 2 3).txs.length+1))=⟨#[49]⟩:=by
  rw [new23.2]
  exact num_at (v:=1) (Lib.decDigits_one (by decide))
 refine (answer_do ⟨#[98,101,103,105,110]⟩ (by decide) [⟨#[98,101,103,105,110]⟩] (by decide) (by decide +kernel) ⟨#[98,101,103,105,110]⟩ rfl (by decide) h.blk h.map (f:=42) (k:=0) (by decide +kernel) (by decide) ⟨#[49]⟩
  (Z:=fun A w1 w2=>∃ y',SesP w2 ss mb 7 c g y' (beginH (newH 2 3))/\Mod (ses ss y) w1 w2/\∀ k,k<w1.heap.size->y.own k=.no->y'.own k=.no) ?_ ?_).mono ?_
 ·rintro A w1 w2 ⟨y',hP,hm,_⟩ hm1
  exact fun old hq=>hq.mod hm (fun e=>e.elim (fun e=>by omega) (fun e=>e hb0))
 ·intro A w1 hm1 hA hA1 hc
  refine (dbegin_num (A:=A) (h.quiet hm1) new23.1 (by rw [new23.2];decide)).mono ?_
  rintro e w2 ⟨rfl,hy⟩
  rw [e1]
  exact ⟨rfl,hy⟩
 ·rintro e w' ⟨rfl,A,w1,w2,v,hm1,hb1,⟨y',hP,hmd,hold⟩,rfl⟩
  have hb2:Blk w2 w.heap.size [.string ⟨#[]⟩] 9:=hb1.mod hmd (fun e=>e.elim (fun e=>by omega) (fun e=>e hb0))
  have hno:y'.own w.heap.size=.no:=hold _ hb1.lt hb0
  refine ⟨rfl,c,g,y',hP.side hb2 (by decide) hno (by omega) (by omega) h.vd.sz v,?_,fun i hik e=>hold i (Nat.lt_of_lt_of_le hik hm1.size) e⟩
  have hA:Mod (ses ss y) w w2:=(hm1.mono (fun _ _ e=>e.elim)).trans' hmd (fun k _ e=>e)
  exact hA.setCell (fun e=>(Nat.lt_irrefl _ e).elim) v
end Go.Proofs.YtiblcbdkiecbgaaGreatDoor
