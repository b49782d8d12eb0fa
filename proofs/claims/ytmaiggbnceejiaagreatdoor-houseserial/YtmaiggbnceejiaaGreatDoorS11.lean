import Derived.Test.YtmaiggbnceejiaaGreatDoorS10
set_option linter.unusedVariables false
set_option maxRecDepth 100000
set_option maxHeartbeats 16000000
namespace Go.Proofs.YtmaiggbnceejiaaGreatDoor
open Go.RowKit Go.Lib Go.Maps Go.Sort Go.Shelf
theorem Mod.JA{w w':World}(h:Mod dZ w w'):w.grownBy w' none:=⟨h.os,h.tape,h.output,h.size,fun k hk _=>h.block k hk id⟩
def WV(a b:ByteArray):Prop:=a.data.toList<b.data.toList
theorem zXb(a:ByteArray):¬ WV a a:=List.lt_irrefl _
theorem yKb(ss:List (List UInt8))(hn:ss.Nodup):(ss.mergeSort fun x y=>decide (x<=y)).Pairwise (·<·):=by
 have hp:(ss.mergeSort fun x y=>decide (x<=y)).Perm ss:=List.mergeSort_perm _ _;have hs:(ss.mergeSort fun x y=>decide (x<=y)).Pairwise fun x y=>decide (x<=y)=true:=
  List.pairwise_mergeSort (fun a b c h1 h2=>by simp only [decide_eq_true_iff] at *;exact List.le_trans h1 h2) (fun a b=>by simp only [br,decide_eq_true_iff];exact List.le_total a b) ss
 have hnd:(ss.mergeSort fun x y=>decide (x<=y)).Nodup:=hp.nodup_iff.2 hn;refine List.Pairwise.imp₂ ?_ hs hnd;intro a b h1 h2;simp only [decide_eq_true_iff] at h1;exact aS fun n=>h2 (List.le_antisymm h1 (List.not_lt.1 n))
def tn(w:World)(B:Nat)(v:Value)(ks:List ByteArray):Prop:=w.ownsRow B 9 1 v ks.length (ks.map Value.string)
theorem tn.mod{G:Nat->Prop}{w w':World}{B:Nat}{v:Value}{os:List ByteArray}(h:tn w B v os)(hm:Mod G w w')(hG:∀ k,v.ownBlock=some k->¬ G k):tn w' B v os:=fm h hm (fun k _ _ e=>hG k e)
theorem IF{w:World}{B g cap:Nat}{ks:List ByteArray}(h:w.ownsRow B 9 1 (.slice (some ⟨g,0,none⟩) ks.length cap) ks.length (ks.map Value.string)):Holds encStr w g 0 (ks.map fun k=>k.data.toList).toArray:=by
 intro j hj;simp only [bC,ar] at hj;have h1:=h.cells (g:=g) rfl j (.string ks[j]) (by rw [aa,aA hj];rfl);rw [Go.WideShapes.add_plain] at h1;obtain ⟨_,_,cur,hc⟩:=mT h (k:=g) rfl;refine ⟨?_,by simp [World.frozen?,hc]⟩;rw [h1,getElem!_pos _ j (by simpa using hj)];simp
theorem zPx{w:World}{g n:Nat}{os:Array Obj}(d:Array (List UInt8)):w.grownBy (grow (putRow encStr (Sort.ahead w n) g 0 d) os) (some g):=by
 refine ⟨rfl,rfl,rfl,by simp,fun k hk hne=>?_⟩;rw [heap_grow_old _ _ (by simpa using hk)];have:g≠k:=fun e=>hne (by rw [e]);simp [putRow,mapBlock,Sort.ahead,Array.getElem?_modify,this]
def NP(k:ByteArray)(cs:List Value):Prop:=cs=[.string k]
def Gb(w:World)(L:Nat)(v:Value)(ks:List ByteArray):Prop:=fV w L 1 NP v ks
theorem Gb.mod{G:Nat->Prop}{w w':World}{L:Nat}{v:Value}{ks:List ByteArray}(h:Gb w L v ks)(hm:Mod G w w')(hG:∀ b,v.ownBlock=some b->¬ G b):Gb w' L v ks:=by
 obtain ⟨a,cap,rfl,h1,h2,h3⟩:=h;refine ⟨a,cap,rfl,h1,h2,?_⟩;rcases h3 with h3 | ⟨b,off,rfl,h4,h5⟩
 ·exact .inl h3
 ·refine .inr ⟨b,off,rfl,h4,fun i d hi=>?_⟩;obtain ⟨cs,k1,k2,k3⟩:=h5 i d hi;exact ⟨cs,k1,k2,fun j x hx=>hm.cell (k3 j x hx) (hG b rfl)⟩
theorem Gb.at{w:World}{L:Nat}{a:Option Addr}{n cap:Nat}{ks:List ByteArray}(h:Gb w L (.slice a n cap) ks){i:Nat}{k:ByteArray}(hi:ks[i]?=some k):∃ b off,a=some ⟨b,off,none⟩/\b<L/\w.cell? ⟨b,off+i,none⟩=some (.string k):=by
 obtain ⟨b,off,cs,h1,h2,rfl,_,h5⟩:=fV.at h hi;exact ⟨b,off,h1,h2,by have:=h5 0 _ rfl;simpa using this⟩
theorem yBb(B:Nat)(v:Value)(ks:List ByteArray)(w:World)(hrow:tn w B v ks)(hn:ks.Nodup)(hl:ks.length<=1000000) :
  Calls Tryz.prog 160 #[v] w fun e w'=>e=.returned (.tuple #[])/\∃ ks',Gb w' w'.heap.size v ks'/\ks'.Perm ks/\ks'.Pairwise WV/\Mod (fun b=>v.ownBlock=some b) w w':=by
 by_cases h0:ks=[]
 ·subst h0;have hv:∃ a cap,v=.slice a 0 cap/\cap<=maxLen:=by
   rcases hrow.2 with ⟨rfl,_⟩ | ⟨g,cap,cur,rfl,_,_,_,h2,_⟩
   ·exact ⟨none,0,rfl,aT _⟩
   ·exact ⟨_,cap,rfl,h2⟩
  obtain ⟨a,cap,rfl,hc⟩:=hv;refine Calls.mono (Any.slices_Sort_string_none Tryz.sortStr a cap w) ?_;rintro e w' ⟨rfl,rfl⟩;exact ⟨rfl,[],⟨a,cap,rfl,aT _,hc,.inl rfl⟩,List.Perm.refl _,List.Pairwise.nil,Mod.refl _ _⟩
 ·have hv:∃ g cap,v=.slice (some ⟨g,0,none⟩) ks.length cap/\ks.length<=cap/\cap<=maxLen:=by
   rcases hrow.2 with ⟨rfl,h1⟩ | ⟨g,cap,cur,rfl,_,_,h1,h2,_⟩
   ·exact absurd (aR h1) h0
   ·exact ⟨g,cap,rfl,h1,h2⟩
  obtain ⟨g,cap,rfl,hc1,hc2⟩:=hv;have hg:g<w.heap.size:=(mT hrow (k:=g) rfl).2.1;have hH:=IF hrow;have hcon:=Any.slices_Sort_string Tryz.sortStr g 0 cap (ks.map fun k=>k.data.toList) w hH hg (by simp;omega);rw [ar] at hcon;refine Calls.mono hcon ?_;rintro e w' ⟨rfl,n,os,rfl⟩;obtain ⟨ts,hts⟩:∃ ts,ts=(ks.map fun k=>k.data.toList).mergeSort fun x y=>decide (x<=y):=⟨_,rfl⟩;have hp:ts.Perm (ks.map fun k=>k.data.toList):=by rw [hts];exact List.mergeSort_perm _ _
  have hnd:(ks.map fun k=>k.data.toList).Nodup:=by
   rw [List.nodup_iff_pairwise_ne,cB];exact List.Pairwise.imp (fun hne e=>hne (RN e)) hn
  have hr:ts.Pairwise (·<·):=by rw [hts];exact yKb _ hnd
  rw [<-hts];have hlen:ts.length=ks.length:=by rw [hp.length_eq,ar]
  refine ⟨rfl,ts.map fun l=>⟨l.toArray⟩,?_,?_,?_,(Mod.refl _ w).grown (zPx _) (fun x hx _=>by cases hx;rfl)⟩
  ·have h0:Holds encStr (Sort.ahead w n) g 0 (ks.map fun k=>k.data.toList).toArray:=hH;have h1:Holds encStr (putRow encStr (Sort.ahead w n) g 0 ts.toArray) g 0 ts.toArray:=holds_putRow encStr (Sort.ahead w n) g 0 (ks.map fun k=>k.data.toList).toArray ts.toArray h0 (by simp [hlen]);have CG:g<(putRow encStr (Sort.ahead w n) g 0 ts.toArray).heap.size:=by simp;exact hg
   refine ⟨_,cap,by rw [ar,hlen],by rw [ar,hlen];exact hc1,hc2,.inr ⟨g,0,rfl,?_,fun i k hi=>⟨[.string k],rfl,rfl,fun j x hx=>?_⟩⟩⟩
   ·have:=(zPx (w:=w) (g:=g) (n:=n) (os:=os) ts.toArray).size;omega
   ·have hj:j=0:=by have:=(aB.1 hx).1;simp at this;exact this
    subst hj;simp at hx;subst hx;rw [aa] at hi
    cases hti:ts[i]? with
    | none=>rw [hti] at hi;cases hi
    | some l=>
     rw [hti] at hi;simp at hi;have hil:=(aB.1 hti).1;have h2:=(h1 i (by simpa using hil)).1;rw [getElem!_pos _ i (by simpa using hil)] at h2;simp only [List.getElem_toArray] at h2;rw [(aB.1 hti).2] at h2;rw [cell?_grow _ _ _ CG,show 0+i*1+0=0+i by omega,h2,<-hi]
  ·have h2:=hp.map fun l:List UInt8=>(⟨l.toArray⟩:ByteArray);rw [dO] at h2;have h3:ks.map ((fun l:List UInt8=>(⟨l.toArray⟩:ByteArray)) ∘ fun k=>k.data.toList)=ks:=by
    conv=>rhs;rw [<-List.map_id ks]
    refine List.map_congr_left (fun k _=>?_);simp
   rw [h3] at h2;exact h2
  ·rw [cB];exact hr
theorem yHv{key:Value}{kl:Lit}(h:keyOf Tryz.prog 9 key=some kl):∃ x:ByteArray,key=.string x/\kl=gQ x/\gA x:=by
 cases key <;> simp [keyOf,Tryz.underlying9,mapKey] at h
 rename_i x;obtain ⟨h1,h2⟩:=h;exact ⟨x,rfl,h2.symm,by unfold gA;simpa using h1⟩
theorem yBg(a b:ByteArray):(gQ a).sameKey (gQ b)=decide (a=b):=by
 by_cases h:a=b
 ·subst h;rw [WideAt.sameKey_self (Qu _)];simp
 ·rw [Maps.sameKey_ne (fun e=>h (TL e))];simp [h]
theorem yAm(w:World){ops:Array Oper}{rest:List Oper}{o:Oper}{a:Act}{Q:Exit->Act->World->Prop}(hg:o.guard=none)(it:Operand)(hop:o.op=Op.next it false)(g r n:Nat)(D:DataW Unit)(left:Lit->Bool)(cnt:Nat)
  (hit:a.eval it=.pointer (some ⟨r,0,none⟩)) (h:w.ranges Tryz.prog 9 rf g r n D left cnt)
  (hDone:(∀ kl,left kl=false)->wpList Tryz.prog ops Q rest (a.put o.dst (.tuple #[.bool false])) w)
  (hMore:∀ (x:ByteArray) (c d:Value) (w':World) (cnt':Nat),gA x->left (gQ x)=true->rM c->rM d->D.atKey (gQ x) Cc=lS c d->w'.ranges Tryz.prog 9 rf g r n D (fun z=>left z && !z.sameKey (gQ x)) cnt'->cnt'<cnt ->
   w.grownBy w' (some r)->(Instr.entry (.pointer (some ⟨r,0,none⟩))).run Tryz.prog w'=.ok (.tuple #[.string x,.agg #[c,d]]) w'->wpList Tryz.prog ops Q rest (a.put o.dst (.tuple #[.bool true,.string x,.agg #[c,d]])) w') :
  wpList Tryz.prog ops Q (o :: rest) a w:=
 wpList_next_ranges w hg it hop 9 KP rf (fun x:ByteArray=>Value.string x) (fun v:Value=>v) (fun key kl hkey=>by obtain ⟨x,rfl,_⟩:=yHv hkey;exact ⟨x,rfl⟩) (fun v y _=>⟨v,rfl⟩) g r n D left cnt hit h (fun _ hl=>hDone hl)
  (fun x c kl y w' cnt' hkey hlk hv hat hrg hlt hgr hsz hen=>by
   obtain ⟨x',e,rfl,hok⟩:=yHv hkey
   cases e
   obtain ⟨a1,b1,rfl,h1,h2,h3⟩:=yDe hv;exact hMore x a1 b1 w' cnt' hok hlk h1 h2 (by rw [hat Cc,h3]) hrg hlt hgr hen)
theorem yCr{w:World}{g r n cnt:Nat}{D:DataW Unit}{left:Lit->Bool}{x:ByteArray}(h:w.ranges Tryz.prog 9 rf g r n D left cnt)(hl:left (gQ x)=true):has D (gQ x)=true:=by
 obtain ⟨es,clock,since,seen,c0,hb,F,hs,hDD,hr,hold,hcn,oJ,hl2,hsc,hsk⟩:=h;obtain ⟨y,hy,e⟩:=hl2 _ hl;rw [hDD];exact cU.2 ⟨_,mem_sorted.2 (af.2 ⟨y,hy,rfl⟩),by rw [e];exact WideAt.sameKey_self (Qu _)⟩
structure BZ(s:fy)(p:ec->Bool)(D:DataW Unit)(left:Lit->Bool)(ks:List ByteArray):Prop where
 nodup:ks.Nodup
 mem:∀ k,k∈ks↔gA k/\has D (gQ k)=true/\left (gQ k)=false/\p (s k)=true
theorem BZ.start(s:fy)(p:ec->Bool)(D:DataW Unit):BZ s p D (has D) []:=
 ⟨by simp,fun k=>⟨fun h=>by simp at h,fun ⟨_,h1,h2,_⟩=>by rw [h1] at h2;cases h2⟩⟩
theorem BZ.skip{s:fy}{p:ec->Bool}{D:DataW Unit}{left:Lit->Bool}{ks:List ByteArray}(h:BZ s p D left ks){x:ByteArray}(hp:p (s x)=false):BZ s p D (fun z=>left z && !z.sameKey (gQ x)) ks:=
 ⟨h.nodup,fun k=>by
  rw [h.mem];simp only [yBg];by_cases e:k=x
  ·subst e;simp [hp]
  ·simp [e]⟩
theorem BZ.take{s:fy}{p:ec->Bool}{D:DataW Unit}{left:Lit->Bool}{ks:List ByteArray}(h:BZ s p D left ks){x:ByteArray}(hok:gA x)(hl:left (gQ x)=true)(hh:has D (gQ x)=true)(hp:p (s x)=true):BZ s p D (fun z=>left z && !z.sameKey (gQ x)) (ks++[x]):=by
 have hno:x∉ks:=fun hx=>by have:=((h.mem x).1 hx).2.2.1;rw [hl] at this;cases this
 refine ⟨?_,fun k=>?_⟩
 ·rw [bN];refine ⟨h.nodup,by simp,fun a ha b hb e=>?_⟩;simp at hb;subst hb;subst e;exact hno ha
 ·rw [aN,bU,h.mem];simp only [yBg];by_cases e:k=x
  ·subst e;simp [hok,hh,hp]
  ·simp [e]
def Jh(s:fy)(p:ec->Bool)(ks:List ByteArray):Prop:=ks.Pairwise WV/\∀ k,k∈ks↔gA k/\¬ (s k).bare/\p (s k)=true
structure Jg(f:Nat)(gT:Array Value)(p:ec->Bool)(B N:Nat)(q:iP)(s:fy)(w:World):Prop where
 enter:∀ (args:Array Value) (w:World),(callFunc f args).run Tryz.prog w=.ok (.enter f args) w
 ask:∀ (k:ByteArray) (wr:World),gA k->oZ wr B N q s->Mod dZ w wr ->
  Calls Tryz.prog f (#[.agg #[q.hd k true,q.hd k false]]++gT) wr fun e w'=>e=.returned (.bool (p (s k)))/\Mod dZ wr w'
theorem Tryz.Hj:(Tryz.prog.info? 9).map (fun i=>(i.zero,i.size,i.bytes))=some (some (.string ByteArray.empty),1,16):=by kernel_rfl
def Rt(w:World)(s:fy)(p:ec->Bool)(n:Nat)(e:Ending)(w':World):Prop:=∃ v ks,e=.returned v/\Gb w' w'.heap.size v ks/\Jh s p ks/\(∀ b,v.ownBlock=some b->w.heap.size<=b)/\ks.length<=n/\Mod dZ w w'
theorem yBx(f:Nat)(gT:Array Value)(p:ec->Bool)(B N:Nat)(q:iP)(s:fy)(w:World)(h:oZ w B N q s)(hA:Jg f gT p B N q s w)(DL:q.n<=1000000) :
  Calls Tryz.prog 120 #[.pointer (some ⟨q.b,q.pre.length,none⟩),.func (.func f) #[] gT] w (Rt w s p q.n):=by
 obtain ⟨i0,yi,yz0,yz1,yz2⟩:=info_parts Tryz.Hj;have c0:=h.cell;have z0:=h.blk.lt;have HH:=dV h;have HA:=dV hA;have hent:=hA.enter
 cases hm:q.m with
 | none=>
  have hmp:=h.map;rw [hm] at hmp;have yO:Hid (Jh s p []):=⟨List.Pairwise.nil,fun k=>⟨fun h=>by simp at h,fun ⟨h1,h2,_⟩=>absurd (hmp k h1).2 h2⟩⟩;rw [hm] at c0;have hrg:=run_range_nilMap (P:=Tryz.prog) w 79 9 168 Tryz.underlying79;have hnx:∀ ty,(Instr.next (.pointer (some ⟨w.heap.size,0,none⟩)) false ty).run Tryz.prog (w.alloc (.mapIter none 0 #[] 0))=_:=fun ty=>run_next_nilMap w ty 0 0 #[];have HM:Hid (Mod dZ w (w.alloc (.mapIter none 0 #[] 0))):=(Mod.refl _ w).alloc _;have HS:=dV (yBb 0 (.slice none 0 0) [] (w.alloc (.mapIter none 0 #[] 0)) (World.ownsRow_nil _ _ _ _) (by simp) (by simp));clear h hA hmp hent;go_enter Tryz.func120,Tryz.ntmps120
  go_wp2
  refine wp_loop_rounds 1 ?_;rw [rounds_succ];go_wp2_with (first | (go_at_call 160;refine HS.out.mono ?_;rintro e w5 ⟨rfl,ps',hps,AT,hpw,hmm⟩) | go_in);go_ret;have hnil:ps'=[]:=List.Perm.eq_nil AT;subst hnil;exact ⟨_,[],rfl,hps,yO.out,fun b hb=>by simp [Value.ownBlock] at hb,aT _,HM.out.trans' hmm (fun _ _ e=>by cases e)⟩
 | some g=>
  obtain ⟨_,D,hown,hD⟩:=h.map.get hm;rw [hm] at c0;have HD:=dV hD;have HOWN:=dV hown;have hgl:=hown.lt;have hsz:=hown.size_le;clear h hA hD hown hm;go_enter Tryz.func120,Tryz.ntmps120;go_wp2_with (first
   | (at_range;refine wpList_range_own _ rfl _ 79 rfl 9 168 KP Tryz.underlying79 _ g q.n D rfl HOWN.out ?_;intro w0 hrg0 hg0 hs0)
   | go_in)
  go_frame
  have BL:Hid (Mod dZ w w0):=(Mod.refl _ w).grown hg0 (fun x hx _=>by cases hx);have Py:=dV hrg0;have HS0:=dV hs0;clear hrg0 hg0 hs0;go_loopw [5] (fun v0 wr=>∃ (left:Lit->Bool) (cnt:Nat) (ks:List ByteArray),wr.ranges Tryz.prog 9 rf g w.heap.size q.n D left cnt/\tn wr (w.heap.size+1) v0 ks/\BZ s p D left ks/\Mod dZ w wr/\w.heap.size+1<=wr.heap.size/\ks.length+cnt<=q.n) (fun _ wr=>wr.rangeLeft g w.heap.size)
  case atStart=>exact ⟨_,_,[],Py.out,World.ownsRow_nil _ _ _ _,BZ.start s p D,BL.out,by rw [HS0.out];exact aF _,by simpa using hsz⟩
  case round=>
   obtain ⟨left,cnt,ks,hrg,hrow,hC,hM,hz,hcn⟩:=hrel;have HM:=dV hM;have Sq:=dV hrg;have fY:=dV hrow;have HC:=dV hC;obtain ⟨pa,NB,hpv⟩:=eu hrow;subst hpv;clear hrg hM hrow hC Py BL HS0;go_wp2_with (first
    | (at_next;refine yAm _ rfl _ rfl g w.heap.size q.n D left cnt rfl Sq.out ?_ ?_)
    | go_in)
   ·intro hl0;have HS:=dV (yBb _ _ ks wr fY.out HC.out.nodup (by omega));have Qa:Hid (∀ k,k∈ks↔gA k/\¬ (s k).bare/\p (s k)=true):=fun k=>by
     rw [HC.out.mem];constructor
     ·rintro ⟨h1,h2,_,h4⟩;exact ⟨h1,((HD.out k h1).2).1 h2,h4⟩
     ·rintro ⟨h1,h2,h4⟩;exact ⟨h1,((HD.out k h1).2).2 h2,hl0 _,h4⟩
    have HRB:Hid (∀ b,(Value.slice pa ks.length NB).ownBlock=some b->w.heap.size+1<=b):=fun b hb=>(mT fY.out hb).1;clear hl0;go_wp2_with (first | (go_at_call 160;refine HS.out.mono ?_;rintro e w5 ⟨rfl,ps',hps,AT,hpw,hmm⟩) | go_in);go_ret;exact ⟨_,ps',rfl,hps,⟨hpw,fun k=>by rw [AT.mem_iff];exact Qa.out k⟩,fun b hb=>by have:=HRB.out b hb;omega,by rw [AT.length_eq];omega,HM.out.trans' hmm (fun b hb e=>by have:=HRB.out b e;omega)⟩
   ·intro x c d w1 cnt1 hok hlx hc hd hat hrg1 hlt hg1 hen;have hdd:D.atKey (gQ x) Cc=lS (q.hd x true) (q.hd x false):=(HD.out x hok).1;obtain ⟨rfl,rfl⟩:c=q.hd x true/\d=q.hd x false:=yIf hc hd (HH.out.hdr x true hok) (HH.out.hdr x false hok) (by rw [<-hat,hdd]);obtain ⟨ha,hcap,mi⟩:=eu (HH.out.rows x true hok id);obtain ⟨wa,ft,iY⟩:=eu (HH.out.rows x false hok id);have dh:Mod dZ w w1:=HM.out.grown hg1 (fun y hy hlt=>by cases hy;omega);have hm2:Mod dZ w (w1.alloc (.cells #[q.hd x true,q.hd x false] 168)):=dh.alloc _;have HAS:=HA.out.ask x (w1.alloc (.cells #[q.hd x true,q.hd x false] 168)) hok (HH.out.mod hm2 id (fun _ _=>id)) hm2;rw [mi,iY] at hen HAS ⊢;have hhas:=yCr Sq.out hlx;have HASK:=dV HAS;rw [mi,iY] at hm2;have gE:=dV hm2;have Zb:=dV (hrg1.alloc (.cells #[.slice ha ((s x).list true).length hcap,.slice wa ((s x).list false).length ft] 168));have Fq:Hid (tn (w1.alloc (.cells #[.slice ha ((s x).list true).length hcap,.slice wa ((s x).list false).length ft] 168)) (w.heap.size+1) (.slice pa ks.length NB) ks):=by
     have hmr:Mod (eA w.heap.size) wr w1:=(Mod.refl _ wr).grown hg1 (fun y hy _=>by cases hy;rfl);exact tn.mod (fm fY.out hmr (fun k hk _ _ e=>by simp only [eA] at e;omega)) ((Mod.refl dZ _).alloc _) (fun _ _=>id)
    have hz1:w.heap.size+1<=w1.heap.size:=aJ hz hg1.size;have HHN:=dV mi;have wy:=dV iY;clear hrg1 hg1 hat hc hd dh hm2 HAS hdd mi iY;go_wp2_with fail;refine HASK.out.mono ?_;rintro e w2 ⟨rfl,hm2⟩;have CR:=dV (Zb.out.kept hm2.JA (by simp) (by simp));have Pg:=dV (Fq.out.mod hm2 (fun _ _=>id));have iI:=dV (gE.out.trans hm2);have hz2:w.heap.size+1<=w2.heap.size:=aJ hz1 (by have:=hm2.size;simp at this;omega);clear hm2
    cases hps:p (s x) with
    | false=>
     have Fy:=dV (HC.out.skip hps);go_wp2_with fail;go_roundw
     case rel=>exact ⟨_,cnt1,ks,CR.out,Pg.out,Fy.out,iI.out,hz2,by omega⟩
     case measure=>rw [CR.out.left_eq,Sq.out.left_eq];exact hlt
    | true=>
     have Fy:=dV (HC.out.take hok hlx hhas hps);have iJ:ks.length+1<=maxLen:=by unfold maxLen;omega
     have iK:(ks.length+1)*16<=140737488355328:=by omega
     have HOE:Hid (∀ u∈[Value.string x],u.oneCell'=true):=fun u hu=>by simp at hu;rw [hu];rfl
     go_wp2_with (first
      | (at_builtin;refine wpList_append_own_at _ rfl (.tmp 21) (.tmp 23) 47 rfl (w.heap.size+1) 9 i0 _ 1 16 Tryz.underlying47 yi yz0 yz1 yz2 rfl (by omega) _ _ _ rfl (Pg.out.alloc _) ⟨w2.heap.size,0,none⟩ 1 1 [.string x] rfl rfl (World.news_of_block (heap_alloc_new w2 _)) HOE.out iJ iK (by simp;omega) ?_)
      | fail)
     intro v7 w7 eJ eS _ _;have Fp:=dV ((CR.out.alloc _).kept eS (fun e=>by have:=(mT Pg.out e.symm).1;omega) (fun e=>by have:=(mT Pg.out e.symm).1;omega));have yQ:Hid (Mod dZ w w7):=(iI.out.alloc _).grown eS (fun k hk hlt=>by have:=(mT Pg.out hk).1;omega);have hz7:w.heap.size+1<=w7.heap.size:=aJ (by simp;omega) eS.size;obtain ⟨a7,fE,py⟩:=eu eJ;subst py;have Pf:=dV eJ;clear eJ eS;go_wp2_with fail;go_roundw
     case rel=>exact ⟨_,cnt1,ks++[x],Fp.out,by unfold tn;rw [aD,ay];exact Pf.out,Fy.out,yQ.out,hz7,by simp;omega⟩
     case measure=>rw [Fp.out.left_eq,Sq.out.left_eq];exact hlt
theorem yUw{B N:Nat}{q:iP}{s:fy}{w:World}{tb:Nat}{t:Int}(hN:N<=900)(ht:dg w tb [.int .i64 t] 3):Jg 166 #[.pointer (some ⟨tb,0,none⟩)] (fun k=>vY k t) B N q s w:=by
 refine ⟨xL Tryz.func166 (by kernel_rfl) rfl,fun k wr hk hT hm=>?_⟩;show Calls Tryz.prog 166 #[.agg #[q.hd k true,q.hd k false],.pointer (some ⟨tb,0,none⟩)] wr _;have ht2:=ht.mod hm id;have fR:=hT.few k hk;obtain ⟨w1,hw1⟩:∃ x,x=wr.alloc (.cells #[q.hd k true,q.hd k false] 168):=⟨_,rfl⟩;have dh:Mod dZ wr w1:=by rw [hw1];exact (Mod.refl _ wr).alloc _
 have hb1:dg w1 wr.heap.size [q.hd k true,q.hd k false] 168:=by rw [hw1];exact dg.new wr [q.hd k true,q.hd k false] 168
 have hr1:=(hT.rows k true hk id).mod dh (fun _ _=>id);have hr2:=(hT.rows k false hk id).mod dh (fun _ _=>id);have H1:=dV (MT w1.heap.size (q.hd k true) (s k).held t w1 (hr1.mB (aF _)) (hT.ok k hk).held (by omega));have H2:Hid (∀ w2,Mod dZ w1 w2->Calls Tryz.prog 110 #[q.hd k false,.int .i64 t] w2 fun e w'=>e=.returned (.int .i64 (iw (s k).waits t))/\Mod dZ w2 w'):=fun w2 hm2=>MT w2.heap.size (q.hd k false) (s k).waits t w2 ((ez.mod hr2 hm2 (fun _ _=>id)).mB (aF _)) (hT.ok k hk).waits (by have:=fR;omega);have GA:Hid (vY (s k) t=(decide (iw (s k).held t≠0) || decide (iw (s k).waits t≠0))):=rfl;obtain ⟨ha,hcap,mi⟩:=eu (hT.rows k true hk id);obtain ⟨wa,ft,iY⟩:=eu (hT.rows k false hk id);have p0:=hb1.cell 0 rfl;have p1:=hb1.cell 1 rfl;have hz:=hb1.lt;have t0:=(ht2.mod dh id).cell 0 rfl;have htz:=(ht2.mod dh id).lt;rw [mi] at p0 H1;rw [iY] at p1 H2;rw [mi,iY] at hw1 ⊢;have fJ:=dV dh;generalize vY (s k) t=r at GA;clear dh hb1 hr1 hr2 ht2 ht hT;by_cases g1:iw (s k).held t=0
 ·have HR:Hid (r=(iw (s k).waits t != 0)):=by rw [GA.out,Hid,g1];rw [cO];simp
  rw [g1] at H1;clear GA;go_enter Tryz.func166,Tryz.ntmps166;go_upto_region 1 with fail;rw [<-hw1];clear hw1;go_wp2_with fail;refine H1.out.mono ?_;rintro e w2 ⟨rfl,hm2⟩;have q1:=hm2.cell p1 id;have u0:=hm2.cell t0 id;have hz2:=aH hz hm2.size;have htz2:=aH htz hm2.size;have H22:=dV (H2.out w2 hm2);have gE:=dV (fJ.out.trans hm2);clear p0 p1 t0 hm2 H2;go_wp2_with fail;refine H22.out.mono ?_;rintro e w3 ⟨rfl,dy⟩;go_wp2_with fail;go_ret;exact ⟨by rw [HR.out];rfl,gE.out.trans dy⟩
 ·have HR:Hid (r=(iw (s k).held t != 0)):=by rw [GA.out,Hid];rw [cO];simp [g1]
  clear GA;generalize iw (s k).held t=mm at g1 H1 HR;go_enter Tryz.func166,Tryz.ntmps166;go_upto_region 1 with fail;rw [<-hw1];clear hw1;go_wp2_with fail;refine H1.out.mono ?_;rintro e w2 ⟨rfl,hm2⟩;have gE:=dV (fJ.out.trans hm2);clear p0 p1 t0 hm2 H2;have hmm:(mm == 0)=false:=by simpa using g1
  go_wp2_with fail;go_ret;exact ⟨by rw [HR.out];first | rfl | (simp [g1]),gE.out⟩
theorem Gw(B N:Nat)(q:iP)(s:fy)(t:Int)(w:World)(h:oZ w B N q s)(DL:q.n<=1000000)(hN:N<=900) :
  Calls Tryz.prog 141 #[.pointer (some ⟨q.b,q.pre.length,none⟩),.int .i64 t] w (Rt w s (fun k=>vY k t) q.n):=by
 have tF:∀ fn first cap w,(Instr.makeFunc fn first cap).run Tryz.prog w=.ok (.func fn first cap) w:=fun _ _ _ _=>rfl
 obtain ⟨w1,hw1⟩:∃ x,x=w.alloc (.cells #[.int .i64 t] 3):=⟨_,rfl⟩;have dh:Mod dZ w w1:=by rw [hw1];exact (Mod.refl _ w).alloc _
 have hb1:dg w1 w.heap.size [.int .i64 t] 3:=by rw [hw1];exact dg.new w [.int .i64 t] 3
 have HN:=dV (yBx 166 #[.pointer (some ⟨w.heap.size,0,none⟩)] (fun k=>vY k t) B N q s w1 (h.mod dh id (fun _ _=>id)) (yUw hN hb1) DL);have fJ:=dV dh;clear h dh hb1;go_enter Tryz.func141,Tryz.ntmps141;go_upto_region 1 with fail;rw [<-hw1];clear hw1;go_wp2_with fail;refine HN.out.mono ?_;rintro e w2 ⟨v,ks,rfl,hk,hs,hv,hl,hm⟩;obtain ⟨a,cap,rfl,h1,h2⟩:=fV.slice hk;have HK:=dV hk;clear hk;go_wp2_with fail;go_ret;exact ⟨_,ks,rfl,HK.out,hs,fun b hb=>aJ fJ.out.size (hv b hb),hl,fJ.out.trans hm⟩
theorem kH.congr{w:World}{B N:Nat}{q:iP}{s s':fy}{no:ByteArray->Prop}(h:kH w B N q s no)(he:∀ k,gA k->s k=s' k):kH w B N q s' no:=by
 refine ⟨h.blk,h.bt,?_,h.hdr,fun k i hk hno=>by rw [<-he k hk];exact h.rows k i hk hno,h.apart,fun k hk=>by rw [<-he k hk];exact h.ok k hk,fun k hk=>by rw [<-he k hk];exact h.few k hk⟩;have hm:=h.map
 cases hq:q.m with
 | none=>rw [hq] at hm;exact fun k hk=>by rw [<-he k hk];exact hm k hk
 | some g=>
  rw [hq] at hm;obtain ⟨h0,D,h1,h2⟩:=hm;exact ⟨h0,D,h1,fun k hk=>by rw [<-he k hk];exact h2 k hk⟩
def sf(s:fy)(t:Int)(P:List ByteArray):fy:=fun k=>if Kb P k then gP s t k else s k
theorem yJp(s:fy)(t:Int):sf s t []=s:=by funext k;simp [sf,Kb]
theorem yHk{s:fy}{t:Int}{P:List ByteArray}{k:ByteArray}(h:k∉P):sf s t P k=s k:=by unfold sf;rw [aK (fun e=>h (Li.1 e))]
theorem yJo{s:fy}{t:Int}{P:List ByteArray}{k:ByteArray}(hk:k∉P)(hat:vY (s k) t=true):jX (sf s t P) k (mC (s k) t)=sf s t (P++[k]):=by
 funext y;unfold jX sf;by_cases e:y=k
 ·subst e;rw [aP rfl,aP (Li.2 (by simp))];unfold gP;rw [aP hat]
 ·rw [aK e];have:Kb (P++[k]) y=Kb P y:=by
   rw [cO,Li,Li,aN,bU];exact ⟨fun h=>h.resolve_right e,.inl⟩
  rw [this]
theorem yVq{k:ec}(h:k.bare)(t:Int):vY k t=false:=by
 obtain ⟨h1,h2⟩:=h;unfold vY iw;rw [h1,h2];simp
theorem yNe{s:fy}{t:Int}{ks:List ByteArray}(h:Jh s (fun k=>vY k t) ks)(k:ByteArray)(hk:gA k):sf s t ks k=gP s t k:=by
 unfold sf;split
 ·rfl
 ·rename_i e;have hn:k∉ks:=fun h2=>e (Li.2 h2);unfold gP;have:¬ vY (s k) t=true:=fun ha=>hn ((h.2 k).2 ⟨hk,fun hb=>(by rw [yVq hb] at ha;cases ha),ha⟩);rw [aK this]
theorem UW:∀ (q held kept:List de),(jO held kept q).1.length+(jO held kept q).2.1.length<=held.length+kept.length+q.length
 | [],held,kept=>by simp [jO]
 | c :: q,held,kept=>by
  unfold jO;split
  ·have:=UW q (jS held c) kept;have:=Lu held c;simp only [aW];omega
  ·have:=UW q held (kept++[c]);simp only [aW,aD,az] at *;omega
theorem yUv(k:ec)(t:Int):(mC k t).held.length+(mC k t).waits.length<=k.held.length+k.waits.length:=by
 have:=UW (kV k.waits t) (kV k.held t) [];have:=MF k.held t;have:=MF k.waits t;simp only [mC,az] at *;omega
structure BX where
 tx:Int
 key:ByteArray
 mode:Int
def Lg(g:BX):List Value:=[.int .i64 g.tx,.string g.key,.int .i64 g.mode]
def Bk:List BX->List Value
 | []=>[]
 | o :: os=>Lg o++Bk os
theorem zSc:∀ a b,Bk (a++b)=Bk a++Bk b
 | [],b=>by simp [Bk]
 | p :: a,b=>by simp [Bk,zSc a b]
def mq(w:World)(B:Nat)(v:Value)(l:List BX):Prop:=w.ownsRow B 202 3 v l.length (Bk l)
theorem mq.mod{G:Nat->Prop}{w w':World}{B:Nat}{v:Value}{os:List BX}(h:mq w B v os)(hm:Mod G w w')(hG:∀ k,v.ownBlock=some k->¬ G k):mq w' B v os:=fm h hm (fun k _ _ e=>hG k e)
theorem Tryz.Hm:(Tryz.prog.info? 202).map (fun i=>(i.zero,i.size,i.bytes))=some (some (.agg #[.int .i64 0,.string ByteArray.empty,.int .i64 0]),3,32):=by kernel_rfl
def mG(k:ByteArray)(c:de):BX:=⟨c.tx,k,c.mode⟩
def oN(s:fy)(t:Int)(ks:List ByteArray):List BX:=ks.flatMap fun k=>(iy (s k) t).map (mG k)
theorem yCt(s:fy)(t:Int)(ks:List ByteArray)(k:ByteArray):oN s t (ks++[k])=oN s t ks++(iy (s k) t).map (mG k):=by simp [oN]
theorem yOh{w w6:World}{B N:Nat}{q:iP}{s:fy}{name:ByteArray}{v:Bool->Value}{k':ec}(h:oZ w B N q s)(hn:gA name)(hr:∀ i,ez w6 B (v i) (k'.list i))(hne:∀ x,(v true).ownBlock=some x->(v false).ownBlock≠some x)
  (hm:Mod (fun x=>(∃ i,(q.hd name i).ownBlock=some x)\/w.heap.size<=x) w w6) (hat:∀ i x,(v i).ownBlock=some x->(∃ j,(q.hd name j).ownBlock=some x)\/w.heap.size<=x) :
  Ba w6 B q name v k'/\kH w6 B N q s (·=name):=by
 have hlt:∀ k i x,gA k->(q.hd k i).ownBlock=some x->x<w.heap.size:=fun k i x hk hx=>(h.old hk id hx).2.1;refine ⟨⟨hr,hne,fun k i j x hk hkn h1 h2=>?_⟩,(h.less _).turn hm (fun e=>?_) (fun x hx e=>?_) (fun k i x hk hkn hx e=>?_)⟩
 ·rcases hat j x h2 with ⟨l,e2⟩ | e2
  ·exact hkn (h.apart k name i l x hk hn h1 e2).1
  ·have:=hlt k i x hk h1;omega
 ·rcases e with ⟨i,e⟩ | e
  ·exact (h.lH hn id e).1 rfl
  ·have:=h.blk.lt;omega
 ·rcases e with ⟨i,e⟩ | e
  ·exact (h.lH hn id e).2 hx
  ·have:=(h.lt (.inl hx)).2;omega
 ·rcases e with ⟨l,e⟩ | e
  ·exact hkn (h.apart k name i l x hk hn hx e).1
  ·have:=hlt k i x hk hx;omega
structure yL(w w1 wr:World)(B N:Nat)(q q':iP)(s:fy)(t:Int)(ks:List ByteArray)(i:Nat)(gv:Value):Prop where
 tb:oZ wr B N q' (sf s t (ks.take i))
 b:q'.b=q.b
 pre:q'.pre=q.pre
 post:q'.post=q.post
 ty:q'.t=q.t
 n:q'.n<=q.n
 gr:mq wr w1.heap.size gv (oN s t (ks.take i))
 md:Mod (fun x=>x=q.b\/q.own x) w1 wr
 own:∀ x,q'.own x->q.own x\/w1.heap.size<=x
structure Pa(w w':World)(B N:Nat)(q q':iP)(s:fy)(t:Int)(gv:Value)(ks:List ByteArray):Prop where
 names:Jh s (fun k=>vY k t) ks
 tb:oZ w' B N q' (gP s t)
 b:q'.b=q.b
 pre:q'.pre=q.pre
 post:q'.post=q.post
 ty:q'.t=q.t
 n:q'.n<=q.n
 gr:mq w' w.heap.size gv (oN s t ks)
 md:Mod (fun x=>x=q.b\/q.own x) w w'
 own:∀ x,q'.own x->q.own x\/w.heap.size<=x
theorem RO{w:World}{B:Nat}{gv:Value}{l:List BX}(h:mq w B gv l){x:Nat}(hx:gv.ownBlock=some x):∃ cur,w.heap[x]?=some (.cells cur 202 (0,0)):=(mT h hx).2.2
theorem yCu{w:World}{B B':Nat}{gv v:Value}{l:List BX}{m:List de}(h:mq w B gv l)(hr:ez w B' v m){x:Nat}(hx:gv.ownBlock=some x):v.ownBlock≠some x:=fun e=>by
 obtain ⟨c1,h1⟩:=RO h hx;obtain ⟨_,_,c2,h2⟩:=mT hr e;rw [h1] at h2;simp at h2
theorem yCv{w:World}{B:Nat}{gv:Value}{l:List BX}{b:Nat}{cs:List Value}{ty:TypeId}(h:mq w B gv l)(hb:dg w b cs ty)(hty:ty≠202){x:Nat}(hx:gv.ownBlock=some x):x≠b:=fun e=>by
 obtain ⟨c1,h1⟩:=RO h hx;unfold dg at hb;rw [<-e,h1] at hb;simp at hb;exact hty hb.2.symm
theorem yOr{w:World}{B B' N:Nat}{gv:Value}{l:List BX}{q:iP}{s:fy}(h:mq w B gv l)(hT:oZ w B' N q s)(hty:q.t≠202){x:Nat}(hx:gv.ownBlock=some x):x≠q.b/\¬ q.own x:=by
 refine ⟨yCv h hT.blk hty hx,fun e=>?_⟩;rcases e with e | ⟨k,i,hk,e⟩
 ·obtain ⟨c1,h1⟩:=RO h hx;obtain ⟨_,D,⟨es,clock,hb,_⟩,_⟩:=hT.map.get e;rw [h1] at hb
  cases hb
 ·exact yCu h (hT.rows k i hk id) hx e
theorem yCs(g:BX):∀ u∈Lg g,u.oneCell'=true:=by
 intro u hu;simp [Lg] at hu;rcases hu with rfl | rfl | rfl <;> rfl
theorem zZm{α β:Type}{l:List α}{k:Nat}{c:α}(f:α->β)(h:l[k]?=some c):(l.take (k+1)).map f=(l.take k).map f++[f c]:=by rw [qg h,ay];rfl
structure yUc(wr w6:World)(B N:Nat)(q':iP)(s':fy)(name:ByteArray)(kb:Nat)(v:Bool->Value)(gv:Value)(K:ec)(t:Int):Prop where
 blk:dg w6 kb [v true,v false] 168
 kept:Ba w6 B q' name v (mC K t)
 tx:kH w6 B N q' s' (·=name)
 got:ez w6 B gv (iy K t)
 vo:∀ i x,(v i).ownBlock=some x->q'.own x\/wr.heap.size<=x
 md:Mod (fun x=>(∃ i,(q'.hd name i).ownBlock=some x)\/wr.heap.size<=x) wr w6
theorem yRj{wr w3 w4 w6:World}{B N:Nat}{q':iP}{s':fy}{name:ByteArray}{t:Int}{hv' iN sB Cq gv:Value}(h:oZ wr B N q' s')(hn:gA name)(dy:Mod dZ wr w3)(hb3:wr.heap.size<w3.heap.size)
  (hk4:JN w4 B wr.heap.size hv' iN (kV (s' name).held t) (kV (s' name).waits t)) (OA:hv'.ownBlock=(q'.hd name true).ownBlock) (XQ:iN.ownBlock=(q'.hd name false).ownBlock) (gR:Mod (fun x=>x=wr.heap.size\/(q'.hd name true).ownBlock=some x\/(q'.hd name false).ownBlock=some x) w3 w4)
  (hP:zO w4 w6 B wr.heap.size hv' (kV (s' name).held t) (kV (s' name).waits t) (kV (s' name).waits t).length gv sB Cq (jO (kV (s' name).held t) [] (kV (s' name).waits t)).1 (jO (kV (s' name).held t) [] (kV (s' name).waits t)).2.1 (jO (kV (s' name).held t) [] (kV (s' name).waits t)).2.2) :
  yUc wr w6 B N q' s' name wr.heap.size (fun i=>if i then sB else Cq) gv (s' name) t:=by
 have hz3:=dy.size;have NR:=gR.size;have ij:Mod (fun x=>(∃ i,(q'.hd name i).ownBlock=some x)\/wr.heap.size<=x) wr w6:=by
  refine ((dy.mono (fun _ _ e=>e.elim)).trans (gR.mono (fun x _ e=>?_))).trans (hP.md.mono (fun x _ e=>?_))
  ·rcases e with e | e | e
   ·exact .inr (by omega)
   ·exact .inl ⟨true,e⟩
   ·exact .inl ⟨false,e⟩
  ·rcases e with e | e
   ·exact .inr (by omega)
   ·exact .inl ⟨true,by rw [<-OA];exact e⟩
 have hat:∀ (i:Bool) x,((fun i:Bool=>if i then sB else Cq) i).ownBlock=some x->(∃ j,(q'.hd name j).ownBlock=some x)\/wr.heap.size<=x:=fun i x hx=>by
  cases i with
  | true=>
   simp only [if_true] at hx;rcases hP.ha with e | e
   ·exact .inl ⟨true,by rw [<-OA,<-e];exact hx⟩
   ·exact .inr (by have:=e x hx;omega)
  | false=>
   simp only [dB,if_false] at hx;exact .inr (by have:=hP.wa x hx;omega)
 obtain ⟨yG,CJ⟩:=yOh (v:=fun i:Bool=>if i then sB else Cq) (k':=mC (s' name) t) h hn (fun i=>by cases i;exact hP.ky.w;exact hP.ky.h) (fun x h1 h2=>by simp only [if_true,dB,if_false] at h1 h2;exact hP.ky.ne x h1 h2) ij hat;refine ⟨hP.ky.blk,yG,CJ,hP.got,fun i x hx=>?_,ij⟩;rcases hat i x hx with ⟨j,e⟩ | e
 ·exact .inl (.inr ⟨name,j,hn,e⟩)
 ·exact .inr e
theorem yOs(k:ec)(t:Int):(iy k t).length<=k.waits.length:=by
 have:=(TU (kV k.waits t) (kV k.held t) []).2.2;have:=MF k.waits t;unfold iy;omega
theorem zXj(s:fy)(t:Int)(M:Nat):∀ (ks:List ByteArray),(∀ k∈ks,(s k).waits.length<=M)->(oN s t ks).length<=ks.length*M
 | [],_=>by simp [oN]
 | k :: ks,h=>by
  have ih:=zXj s t M ks (fun x hx=>h x (bS _ hx));have h1:=yOs (s k) t;have h2:=h k (by simp);have e:oN s t (k :: ks)=(iy (s k) t).map (mG k)++oN s t ks:=by simp [oN]
  rw [e,aD,ar,aW,Nat.add_mul];omega
theorem yL.next{w w1 wr w6 wq w7:World}{B N:Nat}{q q' q2:iP}{s:fy}{t:Int}{ks:List ByteArray}{i:Nat}{Yy gq got:Value}{name:ByteArray}{v:Bool->Value}(h:yL w w1 wr B N q q' s t ks i Yy)(hty:q.t≠202)(hname:ks[i]?=some name)(hns:Jh s (fun k=>vY k t) ks)(hqo:∀ x,q.own x->x<w1.heap.size)(DN:q.b<w1.heap.size)
  (hR:yUc wr w6 B N q' (sf s t (ks.take i)) name wr.heap.size v got (s name) t) (Kj:Mod (fun x=>Yy.ownBlock=some x) w6 wq) (hg:mq wq w1.heap.size gq (oN s t (ks.take i)++(iy (s name) t).map (mG name)))
  (hK:Ga wq w7 B N q' q2 (sf s t (ks.take i)) name v (mC (s name) t)) (Ku:kH wq B N q' (sf s t (ks.take i)) (·=name)):yL w w1 w7 B N q q2 s t ks (i+1) gq:=by
 have hin:=(hns.2 name).1 (aC hname);have hz1:=h.md.size;have SA:=hR.md.size;have OC:name∉ks.take i:=fun hm=>by
  obtain ⟨j,hj⟩:=aO hm;rw [cy] at hj;split at hj
  ·rename_i hlt;obtain ⟨a1,a2⟩:=aB.1 hj;obtain ⟨b1,b2⟩:=aB.1 hname;have:=ao.1 hns.1 j i a1 b1 hlt;rw [a2,b2] at this;exact zXb _ this
  ·cases hj
 have sC:sf s t (ks.take i) name=s name:=yHk OC;have hg0:∀ x,Yy.ownBlock=some x->w1.heap.size<=x:=fun x hx=>(mT h.gr hx).1;refine ⟨?_,hK.b.trans h.b,hK.pre.trans h.pre,hK.post.trans h.post,hK.t.trans h.ty,aJ (hK.n0 (by rw [sC];exact hin.2.1)) h.n,?_,?_,fun x hx=>?_⟩
 ·have e:=yJo (s:=s) (t:=t) OC hin.2.2;rw [<-qg hname] at e;rw [<-e];exact hK.tb
 ·rw [qg hname,yCt];refine hg.mod hK.md (fun x hx e=>?_);rcases e with e | e
  ·exact yCv hg Ku.blk (by rw [h.ty];exact hty) hx e
  ·obtain ⟨c1,h1⟩:=RO hg hx;obtain ⟨_,D,⟨es,clock,hb,_⟩,_⟩:=Ku.map.get e;rw [h1] at hb
   cases hb
 ·have hlt:∀ x,x<w1.heap.size->q'.own x->q.own x:=fun x hx hq=>by
   rcases h.own x hq with e | e
   ·exact e
   ·omega
  have a1:Mod (fun x=>x=q.b\/q.own x) w1 w6:=h.md.trans' hR.md (fun x hx e=>by
   rcases e with ⟨j,e⟩ | e
   ·exact .inr (hlt x hx (.inr ⟨name,j,hin.1,e⟩))
   ·omega)
  have a2:Mod (fun x=>x=q.b\/q.own x) w1 wq:=a1.trans' Kj (fun x hx e=>by have:=hg0 x e;omega);exact a2.trans' hK.md (fun x hx e=>by
   rcases e with e | e
   ·exact .inl (by rw [e,h.b])
   ·exact .inr (hlt x hx (.inl e)))
 ·rcases hK.own x hx with e | e | ⟨j,e⟩
  ·exact h.own x e
  ·have:=Kj.size;exact .inr (by omega)
  ·rcases hR.vo j x e with e2 | e2
   ·exact h.own x e2
   ·exact .inr (by omega)
theorem yFb(B N:Nat)(q:iP)(s:fy)(t:Int)(w:World)(h:oZ w B N q s)(hty:q.t≠202)(hN:N<=390)(DL:q.n<=10000)(hB:B<=w.heap.size) :
  Calls Tryz.prog 108 #[.pointer (some ⟨q.b,q.pre.length,none⟩),.int .i64 t] w fun e w'=>∃ gv q' ks,e=.returned gv/\Pa w w' B N q q' s t gv ks:=by
 obtain ⟨i0,hi,hz0,hz1,hz2⟩:=info_parts Tryz.Hm;have HOF:=dV (Gw B N q s t w h (by omega) (by omega));have HT:=dV h;have hqbw:=h.blk.lt;clear h;go_enter Tryz.func108,Tryz.ntmps108;go_wp2_with fail;refine HOF.out.mono ?_;rintro e w1 ⟨nv,ks,rfl,hks,hns,pC,hkl,dh⟩;obtain ⟨na,pr,XR,hnc1,XZ⟩:=fV.slice hks;subst XR;unfold maxLen at XZ;have TB:=dV hks;have LR:=dV hns;have fJ:=dV dh;have xh:=dh.size;have QC:Hid (∀ x,(Value.slice na ks.length pr).ownBlock=some x->¬ (x=q.b\/q.own x)):=fun x hx e=>by
  have h1:=pC x hx;rcases e with e | e
  ·omega
  ·have:=(HT.out.lt e).2;omega
 have HQO:Hid (∀ x,q.own x->x<w1.heap.size):=fun x hx=>aH (HT.out.lt hx).2 xh;have QP:Hid (yL w w1 w1 B N q q s t ks 0 (.slice none 0 0)):=
  ⟨by rw [bf,yJp];exact HT.out.mod dh id (fun _ _=>id),rfl,rfl,rfl,rfl,aF _,by rw [bf];exact World.ownsRow_nil _ _ _ _,Mod.refl _ _,fun x hx=>.inl hx⟩
 have HGL:Hid (∀ i,i<=ks.length->(oN s t (ks.take i)).length<=10000*390):=fun i hik=>by
  have:=zXj s t 390 (ks.take i) (fun k hk=>by
   have:=HT.out.few k ((LR.out.2 k).1 (cP hk)).1;omega)
  have h2:(ks.take i).length<=10000:=by rw [aZ];omega
  exact aJ this (dS _ h2)
 have XM:q.b<w1.heap.size:=by omega
 clear hks hns pC dh HOF;go_wp2_with fail;go_loopw [5,15] (fun g0 i0 wr=>∃ (i:Nat) (q':iP),i<=ks.length/\i0=.int .i64 i/\yL w w1 wr B N q q' s t ks i g0) (fun _ i0 _=>ks.length - (intOf i0).toNat)
 case atStart=>exact ⟨0,q,aT _,rfl,QP.out⟩
 case round=>
  obtain ⟨i,q',hik,rfl,hI⟩:=hrel;clear QP;obtain ⟨wo,hwo⟩:∃ x,x=wr:=⟨_,rfl⟩;subst hwo;by_cases hlt:i<ks.length
  ·obtain ⟨name,hname⟩:∃ k,ks[i]?=some k:=⟨_,aA hlt⟩;have hin:=(LR.out.2 name).1 (aC hname);have hok:=hin.1;have sC:sf s t (ks.take i) name=s name:=by
    refine yHk (fun hm=>?_);obtain ⟨j,hj⟩:=aO hm;rw [cy] at hj;split at hj
    ·rename_i vH;obtain ⟨a1,a2⟩:=aB.1 hj;obtain ⟨b1,b2⟩:=aB.1 hname;have:=ao.1 LR.out.1 j i a1 b1 vH;rw [a2,b2] at this;exact zXb _ this
    ·cases hj
   obtain ⟨nb,noff,rfl,_,n0⟩:=(TB.out.mod hI.md QC.out).at hname;have c0:=hI.tb.cell;rw [hI.b,hI.pre] at c0;have z0:=hI.tb.blk.lt;rw [hI.b] at z0;have lK:=hI.tb.look hok;obtain ⟨ha,hcap,mi⟩:=eu (hI.tb.rows name true hok id);obtain ⟨wa,ft,iY⟩:=eu (hI.tb.rows name false hok id);obtain ⟨ga,mH,DZ⟩:=eu hI.gr;subst DZ;have fR:=hI.tb.few name hok;rw [sC] at mi iY fR;have e1:(s name).list true=(s name).held:=rfl;have e2:(s name).list false=(s name).waits:=rfl;rw [e1] at mi;rw [e2] at iY;obtain ⟨w3,hw3⟩:∃ x,x=wo.alloc (.cells #[q'.hd name true,q'.hd name false] 168):=⟨_,rfl⟩;have dy:Mod dZ wo w3:=by rw [hw3];exact (Mod.refl _ wo).alloc _
   have hb3:dg w3 wo.heap.size [q'.hd name true,q'.hd name false] 168:=by rw [hw3];exact dg.new wo [q'.hd name true,q'.hd name false] 168
   have hky:JN w3 B wo.heap.size (q'.hd name true) (q'.hd name false) (s name).held (s name).waits:=by
    have hr1:=(hI.tb.rows name true hok id).mod dy (fun _ _=>id);have hr2:=(hI.tb.rows name false hok id).mod dy (fun _ _=>id);rw [sC] at hr1 hr2;exact ⟨hb3,hr1,hr2,fun x h1 h2=>by have:=(hI.tb.apart name name true false x hok hok h1 h2).2;cases this⟩
   have CX:=dV (yOc B wo.heap.size _ _ _ _ t w3 hky (by omega) (by omega));have Aq:=hI.tb.ok name hok;rw [sC] at Aq;have HI:=dV hI;have QD:=dV hname;have xA:=dV sC;have iI:=dV dy;have LW:=dV Aq;have HBZ:Hid (wo.heap.size<w3.heap.size):=hb3.lt;have SA:=hI.md.size;have jd:(i:Int)<(ks.length:Int):=by omega
   have lJ:(0:Int)<=(i:Int):=by omega
   rw [mi,iY] at lK hw3;have BS:=dV mi;have Az:=dV iY;clear hI hname sC dy hb3 hky mi iY e1 e2 Aq hin;go_upto_region 6 with fail;rw [<-hw3];clear hw3 lK c0 n0;go_wp2_with fail;refine CX.out.mono ?_;rintro e w4 ⟨rfl,hv4,wv4,hk4,OA,XQ,gR⟩;have hle1:=MF (s name).held t;have OU:=MF (s name).waits t;have Pz:=dV (yRq B wo.heap.size hv4 wv4 _ _ w4 hk4 (EX LW.out.held t) (by omega) (by omega) (by have:=gR.size;have:=iI.out.size;omega));have BP:=dV hk4;have Sv:=dV OA;have HO2:=dV XQ;have sZ:=dV gR;clear hk4 OA XQ gR CX;go_upto_region 7 with fail;go_wp2_with (first
    | (go_at_call 143;refine Pz.out.mono ?_;rintro e w6 ⟨got,sB,Cq,rfl,hP⟩;obtain ⟨gta,PS,hgt⟩:=eu (show ez w6 B got (iy (s name) t) from hP.got);subst hgt)
    | go_in)
   have hR:=yRj HI.out.tb hok iI.out HBZ.out (by rw [xA.out];exact BP.out) Sv.out HO2.out sZ.out (by rw [xA.out];exact hP);rw [xA.out] at hR;obtain ⟨v,hv⟩:∃ v:Bool->Value,v=fun i=>if i then sB else Cq:=⟨_,rfl⟩
   rw [<-hv] at hR;have vC:v true=sB:=by rw [hv];rfl
   have AH:v false=Cq:=by rw [hv];rfl
   have HR:=dV hR;have hgl:=yOs (s name) t;have hGL:=HGL.out i hik;have Ag:=fun x hx=>yOr HI.out.gr HI.out.tb (by rw [HI.out.ty];exact hty) (x:=x) hx;have Zy:=dV Ag;have HGB:Hid (∀ x,(Value.slice ga (oN s t (ks.take i)).length mH).ownBlock=some x->w1.heap.size<=x/\x<wo.heap.size):=fun x hx=>⟨(mT HI.out.gr hx).1,(mT HI.out.gr hx).2.1⟩;have Kn:mq w6 w1.heap.size (.slice ga (oN s t (ks.take i)).length mH) (oN s t (ks.take i)):=HI.out.gr.mod hR.md (fun x hx e=>by
    rcases e with ⟨j,e⟩ | e
    ·exact (Ag x hx).2 (.inr ⟨name,j,hok,e⟩)
    ·have:=(HGB.out x hx).2;omega)
   have HG6:=dV Kn;have Pj:=dV vC;have HVF:=dV AH;have HNG:Hid (∀ x,(Value.slice ga (oN s t (ks.take i)).length mH).ownBlock=some x->(Value.slice gta (iy (s name) t).length PS).ownBlock≠some x):=fun x hx=>yCu Kn hR.got hx;have hzr6:=hR.md.size;have HLH:Hid (rM sB/\rM Cq):=⟨Lw (by rw [<-vC];exact hR.kept.row true),Lw (by rw [<-AH];exact hR.kept.row false)⟩;generalize hGN:(oN s t (ks.take i)).length=gn at hGL HGB HG6 HNG Zy HI;have Zz:=dV hGN;clear hP hR Ag Kn hv vC AH Pz BP Sv HO2 sZ hGN;go_loopw [5,29] (fun g1 j0 wq=>∃ j:Nat,j<=(iy (s name) t).length/\j0=.int .i64 j/\mq wq w1.heap.size g1 (oN s t (ks.take i)++((iy (s name) t).take j).map (mG name))/\(g1.ownBlock=(Value.slice ga gn mH).ownBlock\/∀ x,g1.ownBlock=some x->w6.heap.size<=x)/\Mod (fun x=>(Value.slice ga gn mH).ownBlock=some x) w6 wq) (fun _ j0 _=>(iy (s name) t).length - (intOf j0).toNat)
   case atStart=>exact ⟨0,aT _,rfl,by simpa using HG6.out,.inl rfl,Mod.refl _ _⟩
   case round=>
    obtain ⟨j,hjl,rfl,hrow,hloc,Kj⟩:=hrel;have HLOC:=dV hloc;clear hloc;obtain ⟨Yz,Au,hg1⟩:=eu hrow;subst hg1;have fY:=dV hrow;have LU:=dV Kj;have hz6q:=Kj.size;clear hrow Kj HG6;by_cases pF:j<(iy (s name) t).length
    ·obtain ⟨c,hc⟩:∃ c,(iy (s name) t)[j]?=some c:=⟨_,aA pF⟩;obtain ⟨tb,Vs,rfl,_,q0,q1⟩:=((HR.out.got.mod LU.out (fun x hx e=>HNG.out x e hx)).mB (aF _)).at hc;obtain ⟨w8,SD⟩:∃ x,x=wr.alloc (.cells #[.int .i64 c.tx,.int .i64 c.mode] 170):=⟨_,rfl⟩;have oT:Mod dZ wr w8:=by rw [SD];exact (Mod.refl _ wr).alloc _
     have im:dg w8 wr.heap.size (fS c) 170:=by rw [SD];exact dg.new wr (fS c) 170
     have y0:=im.cell 0 rfl;have y1:=im.cell 1 rfl;have hz8:=im.lt;have BD:=dV (fY.out.mod oT (fun _ _=>id));have hmt:=zZm (mG name) hc;have HMT:=dV hmt;have nM:(oN s t (ks.take i)++((iy (s name) t).take j).map (mG name)).length=gn+j:=by rw [aD,Zz.out,ar,aZ];omega
     rw [nM] at BD ⊢;have Pv:Hid (w8.ownsRow w1.heap.size 202 3 (.slice Yz (gn+j) Au) (gn+j) (Bk (oN s t (ks.take i)++((iy (s name) t).take j).map (mG name)))):=by
      have h9:=BD.out;unfold mq at h9;rw [nM] at h9;exact h9
     have oM:=dV nM;have iJ:gn+j+1<=maxLen:=by unfold maxLen;omega
     have iK:(gn+j+1)*32<=140737488355328:=by omega
     have hbz:w1.heap.size<=w8.heap.size:=by have:=oT.size;omega
     have QI:=dV oT;have IW:(j:Int)<((iy (s name) t).length:Int):=by omega
     have Kl:(0:Int)<=(j:Int):=by omega
     clear hc oT im hmt nM BD;go_upto_region 10 with fail;rw [<-SD];clear SD q0 q1;go_wp2_with (first
      | (at_builtin;refine wpList_append_own_at _ rfl (.tmp 33) (.tmp 40) 163 rfl w1.heap.size 202 i0 _ 3 32 Tryz.underlying163 hi hz0 hz1 hz2 rfl (by omega) _ _ _ rfl (Pv.out.alloc _) ⟨w8.heap.size,0,none⟩ 1 1 (Lg (mG name c)) rfl rfl (World.news_of_block (heap_alloc_new w8 _)) (yCs _) iJ iK (by simp;omega) ?_)
      | fail)
     intro v9 w9 mV lN _ vO;have nn:Mod (fun x=>(Value.slice Yz (gn+j) Au).ownBlock=some x) w8 w9:=((Mod.refl _ w8).alloc _).grown lN (fun x hx _=>hx);have OL:Mod (fun x=>(Value.slice ga gn mH).ownBlock=some x) w6 w9:=(LU.out.trans (QI.out.mono (fun _ _ e=>e.elim))).trans' nn (fun x hx e=>by
      have e':(Value.slice Yz (oN s t (ks.take i)++((iy (s name) t).take j).map (mG name)).length Au).ownBlock=some x:=by rw [oM.out];exact e
      rcases HLOC.out with h9 | h9
      ·rw [<-h9];exact e'
      ·have:=h9 x e';omega)
     have tG:v9.ownBlock=(Value.slice ga gn mH).ownBlock\/∀ x,v9.ownBlock=some x->w6.heap.size<=x:=by
      rcases vO with e | e
      ·rcases HLOC.out with h9 | h9
       ·left;rw [e,<-h9,oM.out]
       ·right;intro x hx;exact h9 x (by rw [oM.out,<-e];exact hx)
      ·right;intro x hx;rw [e] at hx;simp at hx;have:=QI.out.size;omega
     obtain ⟨a9,PX,Wv⟩:=eu mV;subst Wv;have Zr:=dV OL;have HL9:=dV tG;have HW9:Hid (mq w9 w1.heap.size (.slice a9 (gn+j+1) PX) (oN s t (ks.take i)++((iy (s name) t).take (j+1)).map (mG name))):=by
      rw [HMT.out,Hid];unfold mq;rw [<-aU,zSc (oN s t (ks.take i)++((iy (s name) t).take j).map (mG name)),aD,oM.out];have:Bk [mG name c]=Lg (mG name c):=by simp [Bk]
      rw [this,List.map_take];exact mV
     clear mV lN vO nn OL tG;go_wp2_with fail;go_roundw
     case rel=>exact ⟨j+1,by omega,by go_num,HW9.out,HL9.out,Zr.out⟩
     case measure=>simp [intOf];omega
    ·obtain rfl:j=(iy (s name) t).length:=by omega
     have hrow2:=fY.out;rw [bJ] at hrow2;have hgx:∀ x,(Value.slice ga gn mH).ownBlock=some x->x<wo.heap.size/\¬ q'.own x/\x≠q'.b:=fun x hx=>⟨(HGB.out x hx).2,(Zy.out x hx).2,(Zy.out x hx).1⟩;have hvx:∀ (l:Bool) x,(v l).ownBlock=some x->¬ (Value.slice ga gn mH).ownBlock=some x:=fun l x hx e=>by
      rcases HR.out.vo l x hx with e2 | e2
      ·exact (hgx x e).2.1 e2
      ·have:=(hgx x e).1;omega
     have Ku:kH wr B N q' (sf s t (ks.take i)) (·=name):=HR.out.tx.turn LU.out (fun e=>(hgx _ e).2.2 rfl) (fun x hx e=>(hgx x e).2.1 (.inl hx)) (fun k l x hk _ hx e=>(hgx x e).2.1 (.inr ⟨k,l,hk,hx⟩));have Sb:Ba wr B q' name v (mC (s name) t):=⟨fun l=>(HR.out.kept.row l).mod LU.out (fun x hx e=>hvx l x hx e),HR.out.kept.ne,HR.out.kept.out⟩;have Ig:dg wr wo.heap.size [v true,v false] 168:=HR.out.blk.mod LU.out (fun e=>by have:=(hgx _ e).1;omega);have Ad:=TK B N N q' (sf s t (ks.take i)) name v (mC (s name) t) wr Ku hok Sb (Gv LW.out t) (aJ (yUv (s name) t) fR) (aF _) (by have:=HI.out.n;omega) (by omega);rw [HI.out.b,HI.out.pre,Pj.out,HVF.out] at Ad;have zJ:=dV Ad;have HTQ:=dV Ku;have CP:=dV hrow2;have k0:=Ig.cell 0 rfl;have k1:=Ig.cell 1 rfl;rw [Pj.out] at k0;rw [HVF.out] at k1;have SB:=Ig.lt;have Yl:=HLH.out;have oM:Hid ((oN s t (ks.take i)++((iy (s name) t).take (iy (s name) t).length).map (mG name)).length=gn+(iy (s name) t).length):=by rw [Hid,aD,Zz.out,ar,aZ];omega
     rw [oM.out];have yS:Hid ((oN s t (ks.take i)++(iy (s name) t).map (mG name)).length=gn+(iy (s name) t).length):=by rw [Hid,aD,Zz.out,ar]
     obtain ⟨h6a,h6n,h6c,hh6⟩:∃ a n c,sB=.slice a n c:=by rcases Yl.1 with e | ⟨a,n,c,e⟩ <;> exact ⟨_,_,_,e⟩
     obtain ⟨w6a,w6n,w6c,sw⟩:∃ a n c,Cq=.slice a n c:=by rcases Yl.2 with e | ⟨a,n,c,e⟩ <;> exact ⟨_,_,_,e⟩
     rw [hh6] at k0 zJ;rw [sw] at k1 zJ;clear hrow2 hgx hvx Ku Sb Ig Ad Yl hh6 sw;go_upto_region 12 with fail;go_wp2_with (first
      | (go_at_call 113;refine zJ.out.mono ?_;rintro e w7 ⟨rfl,q2,hQ⟩;have gN:=dV (yL.next HI.out hty QD.out LR.out HQO.out XM HR.out LU.out CP.out hQ HTQ.out);clear hQ)
      | go_in)
     go_roundw
     case rel=>exact ⟨i+1,q2,by omega,by go_num,by have h9:=gN.out;first | (rw [yS.out] at h9;exact h9) | (rw [oM.out] at h9;exact h9)⟩
     case measure=>simp [intOf];omega
  ·obtain rfl:i=ks.length:=by omega
   obtain ⟨ga,mH,DZ⟩:=eu hI.gr;subst DZ;have gN:Hid (Pa w wo B N q q' s t (.slice ga (oN s t (ks.take ks.length)).length mH) ks):=by
    have By:=hI.tb;have hgr:=hI.gr;rw [bJ] at By hgr ⊢;exact ⟨LR.out,By.congr (fun k hk=>yNe LR.out k hk),hI.b,hI.pre,hI.post,hI.ty,hI.n,uL hgr xh,(fJ.out.mono (fun _ _ e=>e.elim)).trans hI.md,fun x hx=>(hI.own x hx).imp id (fun e=>aJ xh e)⟩
   clear hI;go_wp2_with fail;go_ret;exact ⟨_,q',ks,rfl,gN.out⟩
end Go.Proofs.YtmaiggbnceejiaaGreatDoor
