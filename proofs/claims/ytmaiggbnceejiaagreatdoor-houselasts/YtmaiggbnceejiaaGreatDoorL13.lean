import Derived.Test.YtmaiggbnceejiaaGreatDoorL10
set_option linter.unusedVariables false
set_option maxRecDepth 100000
set_option maxHeartbeats 16000000
namespace Go.Proofs.YtmaiggbnceejiaaGreatDoor
open Go.RowKit Go.Lib Go.Maps Go.Sort Go.Shelf
variable {w w' w6:World}{G:Nat->Prop}{B g cap n L x N B':Nat}{v gv:Value}{ks:List ByteArray}{k name:ByteArray}{D:DataW Unit}{left:Lit->Bool}{s s':gU}{p:fP->Bool}{q:jB}{t:Int}
theorem Mod.Mb(h:Mod dt w w'):w.grownBy w' none:=⟨h.os,h.tape,h.output,h.size,λk a _=>h.block k a id⟩
def ltQ(a b:ByteArray):Prop:=a.data.toList<b.data.toList
theorem zZh(a:ByteArray):¬ltQ a a:=List.lt_irrefl _
theorem yMq(d:List (List UInt8))(l:d.Nodup):(d.mergeSort λx y=>decide (x<=y)).Pairwise (·<·):=by
 have j:(d.mergeSort λx y=>decide (x<=y)).Perm d:=List.mergeSort_perm _ _;have i:(d.mergeSort λx y=>decide (x<=y)).Pairwise λx y=>decide (x<=y)=true:=
  List.pairwise_mergeSort (λa b c e h=>by simp only[decide_eq_true_iff]at *;exact List.le_trans e h) (λa b=>by simp only[cA,decide_eq_true_iff];exact List.le_total a b) d
 have f:(d.mergeSort λx y=>decide (x<=y)).Nodup:=j.nodup_iff.2 l;refine List.Pairwise.imp₂ ?_ i f;intro a b e h;simp only[decide_eq_true_iff]at e;exact aS λn=>h (List.le_antisymm e (List.not_lt.1 n))
def vK(w:World)(B:Nat)(v:Value)(ks:List ByteArray):Prop:=w.ownsRow B 9 1 v ks.length (ks.map Value.string)
theorem vK.mod{os:List ByteArray}(h:vK w B v os)(a:Mod G w w')(b:∀k,v.ownBlock=some k->¬G k):vK w' B v os:=gO h a (λk _ _ e=>b k e)
theorem Lm(h:w.ownsRow B 9 1 (.slice (some ⟨g,0,none⟩) ks.length cap) ks.length (ks.map Value.string)):Holds encStr w g 0 (ks.map λk=>k.data.toList).toArray:=by
 intro j a;simp only[bE,ao]at a;have b:=h.cells (g:=g) rfl j (.string ks[j]) (by rw[ah,aA a];rfl);rw[A1]at b;obtain⟨_,_,d,c⟩:=nN h (k:=g) rfl;refine⟨?_,by simp[World.frozen?,c]⟩;rw[b,getElem!_pos _ j (by simpa using a)];simp
theorem zRj{os:Array Obj}(d:Array (List UInt8)):w.grownBy (grow (putRow encStr (Sort.ahead w n) g 0 d) os) (some g):=by
 refine⟨rfl,rfl,rfl,by simp,λk b a=>?_⟩;rw[heap_grow_old _ _ (by simpa using b)];have:g≠k:=λe=>a (by rw[e]);simp[putRow,mapBlock,Sort.ahead,Array.getElem?_modify,this]
def SH(k:ByteArray)(a:List Value):Prop:=a=[.string k]
def Kb(w:World)(L:Nat)(v:Value)(ks:List ByteArray):Prop:=gD w L 1 SH v ks
theorem Kb.mod(h:Kb w L v ks)(r:Mod G w w')(y:∀b,v.ownBlock=some b->¬G b):Kb w' L v ks:=by
 obtain⟨a,cap,rfl,E,C,e⟩:=h;refine⟨a,cap,rfl,E,C,?_⟩;obtain e|⟨b,c,rfl,A,z⟩:=e
 .exact .inl e
 .refine .inr ⟨b,c,rfl,A,λi d u=>?_⟩;obtain⟨F,m,l,f⟩:=z i d u;exact⟨F,m,l,λj x o=>r.cell (f j x o) (y b rfl)⟩
theorem Kb.at{a:Option Addr}(h:Kb w L (.slice a n cap) ks){i:Nat}(d:ks[i]?=some k):∃b c,a=some ⟨b,c,none⟩/\b<L/\w.cell? ⟨b,c+i,none⟩=some (.string k):=by
 obtain⟨b,c,l,j,f,rfl,_,e⟩:=gD.at h d;exact⟨b,c,j,f,by have:=e 0 _ rfl;simpa using this⟩
theorem yDh(B:Nat)(v:Value)(ks:List ByteArray)(w:World)(c:vK w B v ks)(Q:ks.Nodup)(V:ks.length<=1000000) :
  Calls Tryz.prog 160 #[v] w λe w'=>e=.returned (.tuple #[])/\∃r,Kb w' w'.heap.size v r/\r.Perm ks/\r.Pairwise ltQ/\Mod (λb=>v.ownBlock=some b) w w':=by
 by_cases h0:ks=[]
 .subst h0;have E:∃a cap,v=.slice a 0 cap/\cap<=maxLen:=by
   obtain⟨rfl,_⟩|⟨g,cap,cur,rfl,_,_,_,f,_⟩:=c.2
   .exact⟨none,0,rfl,aT _⟩
   .exact⟨_,cap,rfl,f⟩
  obtain⟨a,cap,rfl,S⟩:=E;refine Calls.mono (Any.slices_Sort_string_none Tryz.sortStr a cap w) ?_;rintro e w'⟨rfl,rfl⟩;exact⟨rfl,[],⟨a,cap,rfl,aT _,S,.inl rfl⟩,List.Perm.refl _,List.Pairwise.nil,Mod.refl _ _⟩
 .have E:∃g cap,v=.slice (some ⟨g,0,none⟩) ks.length cap/\ks.length<=cap/\cap<=maxLen:=by
   obtain⟨rfl,C⟩|⟨g,cap,cur,rfl,_,_,C,f,_⟩:=c.2
   .exact absurd (aR C) h0
   .exact⟨g,cap,rfl,C,f⟩
  obtain⟨g,cap,rfl,J,I⟩:=E;have M:g<w.heap.size:=(nN c (k:=g) rfl).2.1;have O:=Lm c;have o:=Any.slices_Sort_string Tryz.sortStr g 0 cap (ks.map λk=>k.data.toList) w O M (by simp;omega);rw[ao]at o;refine Calls.mono o ?_;rintro e w'⟨rfl,n,os,rfl⟩;obtain⟨d,hts⟩:∃d,d=(ks.map λk=>k.data.toList).mergeSort λx y=>decide (x<=y):=⟨_,rfl⟩;have K:d.Perm (ks.map λk=>k.data.toList):=by rw[hts];exact List.mergeSort_perm _ _
  have H:(ks.map λk=>k.data.toList).Nodup:=by
   rw[List.nodup_iff_pairwise_ne,cH];exact List.Pairwise.imp (λF e=>F (WB e)) Q
  have P:d.Pairwise (·<·):=by rw[hts];exact yMq _ H
  rw[<-hts];have h:d.length=ks.length:=by rw[K.length_eq,ao]
  refine⟨rfl,d.map λl=>⟨l.toArray⟩,?_,?_,?_,(Mod.refl _ w).grown (zRj _) (λx z _=>by cases z;rfl)⟩
  .have h0:Holds encStr (Sort.ahead w n) g 0 (ks.map λk=>k.data.toList).toArray:=O;have C:Holds encStr (putRow encStr (Sort.ahead w n) g 0 d.toArray) g 0 d.toArray:=holds_putRow encStr (Sort.ahead w n) g 0 (ks.map λk=>k.data.toList).toArray d.toArray h0 (by simp[h]);have U:g<(putRow encStr (Sort.ahead w n) g 0 d.toArray).heap.size:=by simp;exact M
   refine⟨_,cap,by rw[ao,h],by rw[ao,h];exact J,I,.inr ⟨g,0,rfl,?_,λi k u=>⟨[.string k],rfl,rfl,λj x z=>?_⟩⟩⟩
   .have:=(zRj (w:=w) (g:=g) (n:=n) (os:=os) d.toArray).size;omega
   .have R:j=0:=by have:=(aB.1 z).1;simp at this;exact this
    subst R;simp at z;subst z;rw[ah]at u
    cases m:d[i]? with
   |none=>rw[m]at u;cases u
   |some l=>
     rw[m]at u;simp at u;have A:=(aB.1 m).1;have f:=(C i (by simpa using A)).1;rw[getElem!_pos _ i (by simpa using A)]at f;simp only[List.getElem_toArray]at f;rw[(aB.1 m).2]at f;rw[cell?_grow _ _ _ U,show 0+i*1+0=0+i by omega,f,<-u]
  .have f:=K.map λl:List UInt8=>(⟨l.toArray⟩:ByteArray);rw[dW]at f;have T:ks.map ((λl:List UInt8=>(⟨l.toArray⟩:ByteArray))∘λk=>k.data.toList)=ks:=by
    conv=>rhs;rw[<-List.map_id ks]
    refine List.map_congr_left (λk _=>?_);simp
   rw[T]at f;exact f
  .rw[cH];exact P
theorem yKl{key:Value}{a:Lit}(h:keyOf Tryz.prog 9 key=some a):∃x:ByteArray,key=.string x/\a=gu x/\gP x:=by
 cases key <;> simp[keyOf,Tryz.underlying9,mapKey]at h
 rename_i x;obtain⟨c,b⟩:=h;exact⟨x,rfl,b.symm,by unfold gP;simpa using c⟩
theorem yDm(a b:ByteArray):(gu a).sameKey (gu b)=decide (a=b):=by
 by_cases h:a=b
 .subst h;rw[WideAt.sameKey_self (Vg _)];simp
 .rw[Maps.sameKey_ne (λe=>h (yBv e))];simp[h]
theorem yCs(w:World){i:Array Oper}{rest:List Oper}{o:Oper}{a:Act}{Q:Exit->Act->World->Prop}(U:o.guard=none)(A:Operand)(E:o.op=Op.next A false)(g r n:Nat)(D:DataW Unit)(left:Lit->Bool)(m:Nat)
  (J:a.eval A=.pointer (some ⟨r,0,none⟩)) (h:w.ranges Tryz.prog 9 sv g r n D left m)
  (l:(∀u,left u=false)->wpList Tryz.prog i Q rest (a.put o.dst (.tuple #[.bool false])) w)
  (j:∀(x:ByteArray) (c d:Value) (w':World) (b:Nat),gP x->left (gu x)=true->se c->se d->D.atKey (gu x) Fg=mc c d->w'.ranges Tryz.prog 9 sv g r n D (λz=>left z&&!z.sameKey (gu x)) b->b<m ->
   w.grownBy w' (some r)->(Instr.entry (.pointer (some ⟨r,0,none⟩))).run Tryz.prog w'=.ok (.tuple #[.string x,.agg #[c,d]]) w'->wpList Tryz.prog i Q rest (a.put o.dst (.tuple #[.bool true,.string x,.agg #[c,d]])) w') :
  wpList Tryz.prog i Q (o::rest) a w:=
 wpList_next_ranges w U A E 9 OY sv (λx:ByteArray=>Value.string x) (λv:Value=>v) (λP u f=>by obtain⟨x,rfl,_⟩:=yKl f;exact⟨x,rfl⟩) (λv y _=>⟨v,rfl⟩) g r n D left m J h (λ_ T=>l T)
  (λx c u y w' b f I R O C H K S M=>by
   obtain⟨x',e,rfl,F⟩:=yKl f
   cases e
   obtain⟨Z,Y,rfl,X,W,V⟩:=yFq R;exact j x Z Y w' b F I X W (by rw[O Fg,V]) C H K M)
theorem yFa{r c:Nat}{x:ByteArray}(h:w.ranges Tryz.prog 9 sv g r n D left c)(l:left (gu x)=true):has D (gu x)=true:=by
 obtain⟨C,clock,since,seen,E,A,F,u,b,z,d,m,o,a,j,i⟩:=h;obtain⟨y,f,e⟩:=a _ l;rw[b];exact cP.2 ⟨_,mem_sorted.2 (aj.2 ⟨y,f,rfl⟩),by rw[e];exact WideAt.sameKey_self (Vg _)⟩
structure EF(s:gU)(p:fP->Bool)(D:DataW Unit)(left:Lit->Bool)(ks:List ByteArray):Prop where
 nodup:ks.Nodup
 mem:∀k,k∈ks↔gP k/\has D (gu k)=true/\left (gu k)=false/\p (s k)=true
theorem EF.start(s:gU)(p:fP->Bool)(D:DataW Unit):EF s p D (has D) []:=
 ⟨by simp,λk=>⟨λh=>by simp at h,λ⟨_,b,a,_⟩=>by rw[b]at a;cases a⟩⟩
theorem EF.skip(h:EF s p D left ks){x:ByteArray}(a:p (s x)=false):EF s p D (λz=>left z&&!z.sameKey (gu x)) ks:=
 ⟨h.nodup,λk=>by
  rw[h.mem];simp only[yDm];by_cases e:k=x
  .subst e;simp[a]
  .simp[e]⟩
theorem EF.take(h:EF s p D left ks){x:ByteArray}(c:gP x)(l:left (gu x)=true)(m:has D (gu x)=true)(j:p (s x)=true):EF s p D (λz=>left z&&!z.sameKey (gu x)) (ks++[x]):=by
 have d:x∉ks:=λi=>by have:=((h.mem x).1 i).2.2.1;rw[l]at this;cases this
 refine⟨?_,λk=>?_⟩
 .rw[br];refine⟨h.nodup,by simp,λa o b f e=>?_⟩;simp at f;subst f;subst e;exact d o
 .rw[aM,bU,h.mem];simp only[yDm];by_cases e:k=x
  .subst e;simp[c,m,j]
  .simp[e]
def Oc(s:gU)(p:fP->Bool)(ks:List ByteArray):Prop:=ks.Pairwise ltQ/\∀k,k∈ks↔gP k/\¬(s k).bare/\p (s k)=true
structure Nq(f:Nat)(iA:Array Value)(p:fP->Bool)(B N:Nat)(q:jB)(s:gU)(w:World):Prop where
 enter:∀(args:Array Value) (w:World),(callFunc f args).run Tryz.prog w=.ok (.enter f args) w
 ask:∀(k:ByteArray) (wr:World),gP k->qD wr B N q s->Mod dt w wr ->
  Calls Tryz.prog f (#[.agg #[q.hd k true,q.hd k false]]++iA) wr λe w'=>e=.returned (.bool (p (s k)))/\Mod dt wr w'
theorem Tryz.LN:(Tryz.prog.info? 9).map (λi=>(i.zero,i.size,i.bytes))=some (some (.string ByteArray.empty),1,16):=by kernel_rfl
def Wo(w:World)(s:gU)(p:fP->Bool)(n:Nat)(e:Ending)(w':World):Prop:=∃v ks,e=.returned v/\Kb w' w'.heap.size v ks/\Oc s p ks/\(∀b,v.ownBlock=some b->w.heap.size<=b)/\ks.length<=n/\Mod dt w w'
theorem yEf(f:Nat)(iA:Array Value)(p:fP->Bool)(B N:Nat)(q:jB)(s:gU)(w:World)(h:qD w B N q s)(hA:Nq f iA p B N q s w)(GJ:q.n<=1000000) :
  Calls Tryz.prog 120 #[.pointer (some ⟨q.b,q.pre.length,none⟩),.func (.func f) #[] iA] w (Wo w s p q.n):=by
 obtain⟨i0,yi,yz0,yz1,yz2⟩:=A3 Tryz.LN;have c0:=h.cell;have z0:=h.Z.lt;have HH:=dk h;have HA:=dk hA;have hent:=hA.enter
 cases V:q.m with
|none=>
  have K:=h.map;rw[V]at K;have Av:Hid (Oc s p []):=⟨List.Pairwise.nil,λk=>⟨λh=>by simp at h,λ⟨O,h2,_⟩=>absurd (K k O).2 h2⟩⟩;rw[V]at c0;have J:=run_range_nilMap (P:=Tryz.prog) w 79 9 168 Tryz.underlying79;have hnx:∀ty,(Instr.next (.pointer (some ⟨w.heap.size,0,none⟩)) false ty).run Tryz.prog (w.alloc (.mapIter none 0 #[] 0))=_:=λty=>run_next_nilMap w ty 0 0 #[];have HM:Hid (Mod dt w (w.alloc (.mapIter none 0 #[] 0))):=(Mod.refl _ w).alloc _;have HS:=dk (yDh 0 (.slice none 0 0) [] (w.alloc (.mapIter none 0 #[] 0)) (A6 _ _ _ _) (by simp) (by simp));clear h hA K hent;go_enter Tryz.func120,Tryz.ntmps120
  go_wp2
  refine wp_loop_rounds 1 ?_;rw[rounds_succ];go_wp2_with (first|(go_at_call 160;refine HS.out.mono ?_;rintro e w5⟨rfl,I,l,Cu,T,M⟩)|go_in);go_ret;have U:I=[]:=List.Perm.eq_nil Cu;subst U;exact⟨_,[],rfl,l,Av.out,λb R=>by simp[Value.ownBlock]at R,aT _,HM.out.trans' M (λ_ _ e=>by cases e)⟩
|some g=>
  obtain⟨_,D,j,hD⟩:=h.map.get V;rw[V]at c0;have HD:=dk hD;have HOWN:=dk j;have hgl:=j.lt;have hsz:=j.size_le;clear h hA hD j V;go_enter Tryz.func120,Tryz.ntmps120;go_wp2_with (first
  |(at_range;refine wpList_range_own _ rfl _ 79 rfl 9 168 OY Tryz.underlying79 _ g q.n D rfl HOWN.out ?_;intro w0 E hg0 S)
  |go_in)
  go_frame
  have Ds:Hid (Mod dt w w0):=(Mod.refl _ w).grown hg0 (λx hx _=>by cases hx);have Uq:=dk E;have HS0:=dk S;clear E hg0 S;go_loopw [5] (λv0 wr=>∃(left:Lit->Bool) (A:Nat) (ks:List ByteArray),wr.ranges Tryz.prog 9 sv g w.heap.size q.n D left A/\vK wr (w.heap.size+1) v0 ks/\EF s p D left ks/\Mod dt w wr/\w.heap.size+1<=wr.heap.size/\ks.length+A<=q.n) (λ_ wr=>wr.rangeLeft g w.heap.size)
  case atStart=>exact⟨_,_,[],Uq.out,A6 _ _ _ _,EF.start s p D,Ds.out,by rw[HS0.out];exact aD _,by simpa using hsz⟩
  case round=>
   obtain⟨left,A,ks,J,o,hC,hM,hz,hcn⟩:=hrel;have HM:=dk hM;have YQ:=dk J;have gG:=dk o;have HC:=dk hC;obtain⟨pa,Rt,hpv⟩:=fU o;subst hpv;clear J hM o hC Uq Ds HS0;go_wp2_with (first
   |(at_next;refine yCs _ rfl _ rfl g w.heap.size q.n D left A rfl YQ.out ?_ ?_)
   |go_in)
   .intro X;have HS:=dk (yDh _ _ ks wr gG.out HC.out.nodup (by omega));have VT:Hid (∀k,k∈ks↔gP k/\¬(s k).bare/\p (s k)=true):=λk=>by
     rw[HC.out.mem];constructor
     .rintro⟨O,h2,_,h4⟩;exact⟨O,((HD.out k O).2).1 h2,h4⟩
     .rintro⟨O,h2,h4⟩;exact⟨O,((HD.out k O).2).2 h2,X _,h4⟩
    have HRB:Hid (∀b,(Value.slice pa ks.length Rt).ownBlock=some b->w.heap.size+1<=b):=λb R=>(nN gG.out R).1;clear X;go_wp2_with (first|(go_at_call 160;refine HS.out.mono ?_;rintro e w5⟨rfl,I,l,Cu,T,M⟩)|go_in);go_ret;exact⟨_,I,rfl,l,⟨T,λk=>by rw[Cu.mem_iff];exact VT.out k⟩,λb R=>by have:=HRB.out b R;omega,by rw[Cu.length_eq];omega,HM.out.trans' M (λb R e=>by have:=HRB.out b e;omega)⟩
   .intro x c d w1 H i W hc hd hat C r z hen;have hdd:D.atKey (gu x) Fg=mc (q.hd x true) (q.hd x false):=(HD.out x i).1;obtain⟨rfl,rfl⟩:c=q.hd x true/\d=q.hd x false:=yKv hc hd (HH.out.hdr x true i) (HH.out.hdr x false i) (by rw[<-hat,hdd]);obtain⟨ha,F,nu⟩:=fU (HH.out.rows x true i id);obtain⟨wa,gW,jI⟩:=fU (HH.out.rows x false i id);have dy:Mod dt w w1:=HM.out.grown z (λy hy r=>by cases hy;omega);have a:Mod dt w (w1.alloc (.cells #[q.hd x true,q.hd x false] 168)):=dy.alloc _;have Q:=HA.out.ask x (w1.alloc (.cells #[q.hd x true,q.hd x false] 168)) i (HH.out.mod a id (λ_ _=>id)) a;rw[nu,jI]at hen Q⊢;have Y:=yFa YQ.out W;have HASK:=dk Q;rw[nu,jI]at a;have gy:=dk a;have HRG1:=dk (C.alloc (.cells #[.slice ha ((s x).list true).length F,.slice wa ((s x).list false).length gW] 168));have Jr:Hid (vK (w1.alloc (.cells #[.slice ha ((s x).list true).length F,.slice wa ((s x).list false).length gW] 168)) (w.heap.size+1) (.slice pa ks.length Rt) ks):=by
     have hmr:Mod (eQ w.heap.size) wr w1:=(Mod.refl _ wr).grown z (λy hy _=>by cases hy;rfl);exact vK.mod (gO gG.out hmr (λk hk _ _ e=>by simp only[eQ]at e;omega)) ((Mod.refl dt _).alloc _) (λ_ _=>id)
    have hz1:w.heap.size+1<=w1.heap.size:=aO hz z.size;have HHN:=dk nu;have zW:=dk jI;clear C z hat hc hd dy a Q hdd nu jI;go_wp2_with fail;refine HASK.out.mono ?_;rintro e w2⟨rfl,a⟩;have FI:=dk (HRG1.out.kept a.Mb (by simp) (by simp));have UZ:=dk (Jr.out.mod a (λ_ _=>id));have jC:=dk (gy.out.trans a);have hz2:w.heap.size+1<=w2.heap.size:=aO hz1 (by have:=a.size;simp at this;omega);clear a
    cases l:p (s x)with
   |false=>
     have KA:=dk (HC.out.skip l);go_wp2_with fail;go_roundw
     case rel=>exact⟨_,H,ks,FI.out,UZ.out,KA.out,jC.out,hz2,by omega⟩
     case measure=>rw[FI.out.left_eq,YQ.out.left_eq];exact r
   |true=>
     have KA:=dk (HC.out.take i W Y l);have iu:ks.length+1<=maxLen:=by unfold maxLen;omega
     have iv:(ks.length+1)*16<=140737488355328:=by omega
     have HOE:Hid (∀u∈[Value.string x],u.oneCell'=true):=λu hu=>by simp at hu;rw[hu];rfl
     go_wp2_with (first
     |(at_builtin;refine B1 _ rfl (.tmp 21) (.tmp 23) 47 rfl (w.heap.size+1) 9 i0 _ 1 16 Tryz.underlying47 yi yz0 yz1 yz2 rfl (by omega) _ _ _ rfl (UZ.out.alloc _) ⟨w2.heap.size,0,none⟩ 1 1 [.string x] rfl rfl (A7 (A0 w2 _)) HOE.out iu iv (by simp;omega) ?_)
     |fail)
     intro v7 w7 eX eh _ _;have Jq:=dk ((FI.out.alloc _).kept eh (λe=>by have:=(nN UZ.out e.symm).1;omega) (λe=>by have:=(nN UZ.out e.symm).1;omega));have Ax:Hid (Mod dt w w7):=(jC.out.alloc _).grown eh (λk hk r=>by have:=(nN UZ.out hk).1;omega);have hz7:w.heap.size+1<=w7.heap.size:=aO (by simp;omega) eh.size;obtain⟨a7,fV,qQ⟩:=fU eX;subst qQ;have UY:=dk eX;clear eX eh;go_wp2_with fail;go_roundw
     case rel=>exact⟨_,H,ks++[x],Jq.out,by unfold vK;rw[aE,ay];exact UY.out,KA.out,Ax.out,hz7,by simp;omega⟩
     case measure=>rw[Jq.out.left_eq,YQ.out.left_eq];exact r
theorem yYc{tb:Nat}(hN:N<=900)(ht:dx w tb [.int .i64 t] 3):Nq 166 #[.pointer (some ⟨tb,0,none⟩)] (λk=>yT k t) B N q s w:=by
 refine⟨zu Tryz.func166 (by kernel_rfl) rfl,λk wr h d T=>?_⟩;show Calls Tryz.prog 166 #[.agg #[q.hd k true,q.hd k false],.pointer (some ⟨tb,0,none⟩)] wr _;have f:=ht.mod T id;have U:=d.few k h;obtain⟨w1,hw1⟩:∃x,x=wr.alloc (.cells #[q.hd k true,q.hd k false] 168):=⟨_,rfl⟩;have j:Mod dt wr w1:=by rw[hw1];exact(Mod.refl _ wr).alloc _
 have c:dx w1 wr.heap.size [q.hd k true,q.hd k false] 168:=by rw[hw1];exact dx.new wr [q.hd k true,q.hd k false] 168
 have m:=(d.rows k true h id).mod j (λ_ _=>id);have l:=(d.rows k false h id).mod j (λ_ _=>id);have u:=dk (RK w1.heap.size (q.hd k true) (s k).held t w1 (m.nO (aD _)) (d.ok k h).held (by omega));have A:Hid (∀b,Mod dt w1 b->Calls Tryz.prog 110 #[q.hd k false,.int .i64 t] b λe w'=>e=.returned (.int .i64 (jD (s k).waits t))/\Mod dt b w'):=λb a=>RK b.heap.size (q.hd k false) (s k).waits t b ((fe.mod l a (λ_ _=>id)).nO (aD _)) (d.ok k h).waits (by have:=U;omega);have o:Hid (yT (s k) t=(decide (jD (s k).held t≠0)||decide (jD (s k).waits t≠0))):=rfl;obtain⟨Z,O,J⟩:=fU (d.rows k true h id);obtain⟨W,gW,K⟩:=fU (d.rows k false h id);have E:=c.cell 0 rfl;have y:=c.cell 1 rfl;have R:=c.lt;have C:=(f.mod j id).cell 0 rfl;have F:=(f.mod j id).lt;rw[J]at E u;rw[K]at y A;rw[J,K]at hw1⊢;have P:=dk j;generalize yT (s k) t=r at o;clear j c m l f ht d;by_cases i:jD (s k).held t=0
 .have z:Hid (r=(jD (s k).waits t !=0)):=by rw[o.out,Hid,i];rw[cR];simp
  rw[i]at u;clear o;go_enter Tryz.func166,Tryz.ntmps166;go_upto_region 1 with fail;rw[<-hw1];clear hw1;go_wp2_with fail;refine u.out.mono ?_;rintro e b⟨rfl,a⟩;have Y:=a.cell y id;have u0:=a.cell C id;have Q:=aJ R a.size;have M:=aJ F a.size;have I:=dk (A.out b a);have H:=dk (P.out.trans a);clear E y C a A;go_wp2_with fail;refine I.out.mono ?_;rintro e X⟨rfl,V⟩;go_wp2_with fail;go_ret;exact⟨by rw[z.out];rfl,H.out.trans V⟩
 .have z:Hid (r=(jD (s k).held t !=0)):=by rw[o.out,Hid];rw[cR];simp[i]
  clear o;generalize jD (s k).held t=mm at i u z;go_enter Tryz.func166,Tryz.ntmps166;go_upto_region 1 with fail;rw[<-hw1];clear hw1;go_wp2_with fail;refine u.out.mono ?_;rintro e b⟨rfl,a⟩;have H:=dk (P.out.trans a);clear E y C a A;have S:(mm==0)=false:=by simpa using i
  go_wp2_with fail;go_ret;exact⟨by rw[z.out];first|rfl|(simp[i]),H.out⟩
theorem LA(B N:Nat)(q:jB)(s:gU)(t:Int)(w:World)(h:qD w B N q s)(A:q.n<=1000000)(hN:N<=900) :
  Calls Tryz.prog 141 #[.pointer (some ⟨q.b,q.pre.length,none⟩),.int .i64 t] w (Wo w s (λk=>yT k t) q.n):=by
 have E:∀i first cap w,(Instr.makeFunc i first cap).run Tryz.prog w=.ok (.func i first cap) w:=λ_ _ _ _=>rfl
 obtain⟨w1,hw1⟩:∃x,x=w.alloc (.cells #[.int .i64 t] 3):=⟨_,rfl⟩;have f:Mod dt w w1:=by rw[hw1];exact(Mod.refl _ w).alloc _
 have c:dx w1 w.heap.size [.int .i64 t] 3:=by rw[hw1];exact dx.new w [.int .i64 t] 3
 have y:=dk (yEf 166 #[.pointer (some ⟨w.heap.size,0,none⟩)] (λk=>yT k t) B N q s w1 (h.mod f id (λ_ _=>id)) (yYc hN c) A);have j:=dk f;clear h f c;go_enter Tryz.func141,Tryz.ntmps141;go_upto_region 1 with fail;rw[<-hw1];clear hw1;go_wp2_with fail;refine y.out.mono ?_;rintro e C⟨v,ks,rfl,d,m,l,r,o⟩;obtain⟨a,cap,rfl,H,F⟩:=gD.slice d;have z:=dk d;clear d;go_wp2_with fail;go_ret;exact⟨_,ks,rfl,z.out,m,λb u=>aO j.out.size (l b u),r,j.out.trans o⟩
theorem kx.congr{no:ByteArray->Prop}(h:kx w B N q s no)(b:∀k,gP k->s k=s' k):kx w B N q s' no:=by
 refine⟨h.Z,h.bt,?_,h.hdr,λk i a d=>by rw[<-b k a];exact h.rows k i a d,h.apart,λk a=>by rw[<-b k a];exact h.ok k a,λk a=>by rw[<-b k a];exact h.few k a⟩;have c:=h.map
 cases e:q.m with
|none=>rw[e]at c;exact λk a=>by rw[<-b k a];exact c k a
|some g=>
  rw[e]at c;obtain⟨h0,D,j,f⟩:=c;exact⟨h0,D,j,λk a=>by rw[<-b k a];exact f k a⟩
def uI(s:gU)(t:Int)(P:List ByteArray):gU:=λk=>if Oo P k then gg s t k else s k
theorem yMi(s:gU)(t:Int):uI s t []=s:=by funext k;simp[uI,Oo]
theorem yJy{P:List ByteArray}(h:k∉P):uI s t P k=s k:=by unfold uI;rw[aH (λe=>h (QY.1 e))]
theorem yMh{P:List ByteArray}(b:k∉P)(a:yT (s k) t=true):jo (uI s t P) k (my (s k) t)=uI s t (P++[k]):=by
 funext y;unfold jo uI;by_cases e:y=k
 .subst e;rw[aK rfl,aK (QY.2 (by simp))];unfold gg;rw[aK a]
 .rw[aH e];have:Oo (P++[k]) y=Oo P y:=by
   rw[cR,QY,QY,aM,bU];exact⟨λh=>h.resolve_right e,.inl⟩
  rw[this]
theorem yYw{k:fP}(h:k.bare)(t:Int):yT k t=false:=by
 obtain⟨b,a⟩:=h;unfold yT jD;rw[b,a];simp
theorem yQc(h:Oc s (λk=>yT k t) ks)(k:ByteArray)(c:gP k):uI s t ks k=gg s t k:=by
 unfold uI;split
 .rfl
 .rename_i e;have b:k∉ks:=λf=>e (QY.2 f);unfold gg;have:¬yT (s k) t=true:=λa=>b ((h.2 k).2 ⟨c,λd=>(by rw[yYw d]at a;cases a),a⟩);rw[aH this]
theorem ZX:∀(q a b:List dw),(ja a b q).1.length+(ja a b q).2.1.length<=a.length+b.length+q.length
|[],a,b=>by simp[ja]
|c::q,a,b=>by
  unfold ja;split
  .have:=ZX q (jx a c) b;have:=Qn a c;simp only[aW];omega
  .have:=ZX q a (b++[c]);simp only[aW,aE,bC]at *;omega
theorem yYb(k:fP)(t:Int):(my k t).held.length+(my k t).waits.length<=k.held.length+k.waits.length:=by
 have:=ZX (lS k.waits t) (lS k.held t) [];have:=Qw k.held t;have:=Qw k.waits t;simp only[my,bC]at *;omega
structure EC where
 I:Int
 key:ByteArray
 mode:Int
def QW(g:EC):List Value:=[.int .i64 g.I,.string g.key,.int .i64 g.mode]
def EP:List EC->List Value
|[]=>[]
|o::a=>QW o++EP a
theorem zTs:∀a b,EP (a++b)=EP a++EP b
|[],b=>by simp[EP]
|p::a,b=>by simp[EP,zTs a b]
def oA(w:World)(B:Nat)(v:Value)(l:List EC):Prop:=w.ownsRow B 202 3 v l.length (EP l)
theorem oA.mod{os:List EC}(h:oA w B v os)(a:Mod G w w')(b:∀k,v.ownBlock=some k->¬G k):oA w' B v os:=gO h a (λk _ _ e=>b k e)
theorem Tryz.LQ:(Tryz.prog.info? 202).map (λi=>(i.zero,i.size,i.bytes))=some (some (.agg #[.int .i64 0,.string ByteArray.empty,.int .i64 0]),3,32):=by kernel_rfl
def nC(k:ByteArray)(c:dw):EC:=⟨c.I,k,c.mode⟩
def pc(s:gU)(t:Int)(ks:List ByteArray):List EC:=ks.flatMap λk=>(jW (s k) t).map (nC k)
theorem yFc(s:gU)(t:Int)(ks:List ByteArray)(k:ByteArray):pc s t (ks++[k])=pc s t ks++(jW (s k) t).map (nC k):=by simp[pc]
theorem yRd{v:Bool->Value}{k':fP}(h:qD w B N q s)(f:gP name)(u:∀i,fe w6 B (v i) (k'.list i))(m:∀x,(v true).ownBlock=some x->(v false).ownBlock≠some x)
  (y:Mod (λx=>(∃i,(q.hd name i).ownBlock=some x)\/w.heap.size<=x) w w6) (o:∀i x,(v i).ownBlock=some x->(∃j,(q.hd name j).ownBlock=some x)\/w.heap.size<=x) :
  EG w6 B q name v k'/\kx w6 B N q s (·=name):=by
 have d:∀k i x,gP k->(q.hd k i).ownBlock=some x->x<w.heap.size:=λk i x c a=>(h.old c id a).2.1;refine⟨⟨u,m,λk i j x c b r z=>?_⟩,(h.less _).turn y (λe=>?_) (λx a e=>?_) (λk i x c b a e=>?_)⟩
 .rcases o j x z with⟨l,e2⟩|e2
  .exact b (h.apart k name i l x c f r e2).1
  .have:=d k i x c r;omega
 .obtain⟨i,e⟩|e:=e
  .exact(h.mS f id e).1 rfl
  .have:=h.Z.lt;omega
 .obtain⟨i,e⟩|e:=e
  .exact(h.mS f id e).2 a
  .have:=(h.lt (.inl a)).2;omega
 .obtain⟨l,e⟩|e:=e
  .exact b (h.apart k name i l x c f a e).1
  .have:=d k i x c a;omega
structure Ar(w w1 wr:World)(B N:Nat)(q q':jB)(s:gU)(t:Int)(ks:List ByteArray)(i:Nat)(gv:Value):Prop where
 tb:qD wr B N q' (uI s t (ks.take i))
 b:q'.b=q.b
 pre:q'.pre=q.pre
 post:q'.post=q.post
 ty:q'.t=q.t
 n:q'.n<=q.n
 gr:oA wr w1.heap.size gv (pc s t (ks.take i))
 md:Mod (λx=>x=q.b\/q.own x) w1 wr
 own:∀x,q'.own x->q.own x\/w1.heap.size<=x
structure UU(w w':World)(B N:Nat)(q q':jB)(s:gU)(t:Int)(gv:Value)(ks:List ByteArray):Prop where
 names:Oc s (λk=>yT k t) ks
 tb:qD w' B N q' (gg s t)
 b:q'.b=q.b
 pre:q'.pre=q.pre
 post:q'.post=q.post
 ty:q'.t=q.t
 n:q'.n<=q.n
 gr:oA w' w.heap.size gv (pc s t ks)
 md:Mod (λx=>x=q.b\/q.own x) w w'
 own:∀x,q'.own x->q.own x\/w.heap.size<=x
theorem WC{l:List EC}(h:oA w B gv l)(b:gv.ownBlock=some x):∃a,w.heap[x]?=some (.cells a 202 (0,0)):=(nN h b).2.2
theorem yFd{l:List EC}{m:List dw}(h:oA w B gv l)(c:fe w B' v m)(b:gv.ownBlock=some x):v.ownBlock≠some x:=λe=>by
 obtain⟨i,d⟩:=WC h b;obtain⟨_,_,f,a⟩:=nN c e;rw[d]at a;simp at a
theorem yFe{l:List EC}{b:Nat}{j:List Value}{d:TypeId}(h:oA w B gv l)(a:dx w b j d)(c:d≠202)(f:gv.ownBlock=some x):x≠b:=λe=>by
 obtain⟨m,i⟩:=WC h f;unfold dx at a;rw[<-e,i]at a;simp at a;exact c a.2.symm
theorem yRn{l:List EC}(h:oA w B gv l)(d:qD w B' N q s)(c:q.t≠202)(a:gv.ownBlock=some x):x≠q.b/\¬q.own x:=by
 refine⟨yFe h d.Z c a,λe=>?_⟩;obtain e|⟨k,i,j,e⟩:=e
 .obtain⟨r,m⟩:=WC h a;obtain⟨_,D,⟨o,clock,f,_⟩,_⟩:=d.map.get e;rw[m]at f
  cases f
 .exact yFd h (d.rows k i j id) a e
theorem yFb(g:EC):∀u∈QW g,u.oneCell'=true:=by
 intro u a;simp[QW]at a;obtain rfl|rfl|rfl:=a <;> rfl
theorem yBt{α β:Type}{l:List α}{k:Nat}{c:α}(f:α->β)(h:l[k]?=some c):(l.take (k+1)).map f=(l.take k).map f++[f c]:=by rw[rq h,ay];rfl
structure yXi(wr w6:World)(B N:Nat)(q':jB)(s':gU)(name:ByteArray)(kb:Nat)(v:Bool->Value)(gv:Value)(K:fP)(t:Int):Prop where
 Z:dx w6 kb [v true,v false] 168
 kept:EG w6 B q' name v (my K t)
 I:kx w6 B N q' s' (·=name)
 got:fe w6 B gv (jW K t)
 vo:∀i x,(v i).ownBlock=some x->q'.own x\/wr.heap.size<=x
 md:Mod (λx=>(∃i,(q'.hd name i).ownBlock=some x)\/wr.heap.size<=x) wr w6
theorem yUm{wr r o:World}{a:jB}{d u l m:Value}(h:qD wr B N a s')(z:gP name)(F:Mod dt wr r)(M:wr.heap.size<r.heap.size)
  (K:NS o B wr.heap.size d u (lS (s' name).held t) (lS (s' name).waits t)) (H:d.ownBlock=(a.hd name true).ownBlock) (J:u.ownBlock=(a.hd name false).ownBlock) (E:Mod (λx=>x=wr.heap.size\/(a.hd name true).ownBlock=some x\/(a.hd name false).ownBlock=some x) r o)
  (b:CB o w6 B wr.heap.size d (lS (s' name).held t) (lS (s' name).waits t) (lS (s' name).waits t).length gv l m (ja (lS (s' name).held t) [] (lS (s' name).waits t)).1 (ja (lS (s' name).held t) [] (lS (s' name).waits t)).2.1 (ja (lS (s' name).held t) [] (lS (s' name).waits t)).2.2) :
  yXi wr w6 B N a s' name wr.heap.size (λi=>if i then l else m) gv (s' name) t:=by
 have I:=F.size;have Q:=E.size;have y:Mod (λx=>(∃i,(a.hd name i).ownBlock=some x)\/wr.heap.size<=x) wr w6:=by
  refine((F.mono (λ_ _ e=>e.elim)).trans (E.mono (λx _ e=>?_))).trans (b.md.mono (λx _ e=>?_))
  .obtain e|e|e:=e
   .exact .inr (by omega)
   .exact .inl ⟨true,e⟩
   .exact .inl ⟨false,e⟩
  .obtain e|e:=e
   .exact .inr (by omega)
   .exact .inl ⟨true,by rw[<-H];exact e⟩
 have f:∀(i:Bool) x,((λi:Bool=>if i then l else m) i).ownBlock=some x->(∃j,(a.hd name j).ownBlock=some x)\/wr.heap.size<=x:=λi x c=>by
  cases i with
 |true=>
   simp only[if_true]at c;obtain e|e:=b.ha
   .exact .inl ⟨true,by rw[<-H,<-e];exact c⟩
   .exact .inr (by have:=e x c;omega)
 |false=>
   simp only[cX,if_false]at c;exact .inr (by have:=b.wa x c;omega)
 obtain⟨P,O⟩:=yRd (v:=λi:Bool=>if i then l else m) (k':=my (s' name) t) h z (λi=>by cases i;exact b.ky.w;exact b.ky.h) (λx C A=>by simp only[if_true,cX,if_false]at C A;exact b.ky.ne x C A) y f;refine⟨b.ky.Z,P,O,b.got,λi x c=>?_,y⟩;rcases f i x c with⟨j,e⟩|e
 .exact .inl (.inr ⟨name,j,z,e⟩)
 .exact .inr e
end Go.Proofs.YtmaiggbnceejiaaGreatDoor
namespace Go.Proofs.YtmaiggbnceejiaaGreatDoor
open Go.RowKit Go.Lib Go.Maps
variable {w w1 w':World}{N n g b:Nat}{q:jB}{s:gU}{G:Nat->Prop}{α:Type}
theorem yRo(k:fP)(t:Int):(jW k t).length<=k.waits.length:=by
 have:=(yBl (lS k.waits t) (lS k.held t) []).2.2;have:=Qw k.waits t;unfold jW;omega
theorem zZp(s:gU)(t:Int)(M:Nat):∀(a:List ByteArray),(∀k∈a,(s k).waits.length<=M)->(pc s t a).length<=a.length*M
|[],_=>by simp[pc]
|k::a,h=>by
  have d:=zZp s t M a (λx c=>h x (bH _ c));have i:=yRo (s k) t;have f:=h k (by simp);have e:pc s t (k::a)=(jW (s k) t).map (nC k)++pc s t a:=by simp[pc]
  rw[e,aE,ao,aW,Nat.add_mul];omega
theorem Ar.next{wr A r L:World}{B:Nat}{u M:jB}{t:Int}{f:List ByteArray}{i:Nat}{p P I:Value}{a:ByteArray}{v:Bool->Value}(h:Ar w w1 wr B N q u s t f i p)(C:q.t≠202)(c:f[i]?=some a)(y:Oc s (λk=>yT k t) f)(W:∀x,q.own x->x<w1.heap.size)(GL:q.b<w1.heap.size)
  (H:yXi wr A B N u (uI s t (f.take i)) a wr.heap.size v I (s a) t) (T:Mod (λx=>p.ownBlock=some x) A r) (F:oA r w1.heap.size P (pc s t (f.take i)++(jW (s a) t).map (nC a)))
  (m:Ka r L B N u M (uI s t (f.take i)) a v (my (s a) t)) (S:kx r B N u (uI s t (f.take i)) (·=a)):Ar w w1 L B N q M s t f (i+1) P:=by
 have o:=(y.2 a).1 (aC c);have V:=h.md.size;have XD:=H.md.size;have R:a∉f.take i:=λY=>by
  obtain⟨j,z⟩:=aP Y;rw[dB]at z;split at z
  .rename_i l;obtain⟨K,J⟩:=aB.1 z;obtain⟨b1,b2⟩:=aB.1 c;have:=aq.1 y.1 j i K b1 l;rw[J,b2]at this;exact zZh _ this
  .cases z
 have U:uI s t (f.take i) a=s a:=yJy R;have E:∀x,p.ownBlock=some x->w1.heap.size<=x:=λx d=>(nN h.gr d).1;refine⟨?_,m.b.trans h.b,m.pre.trans h.pre,m.post.trans h.post,m.t.trans h.ty,aO (m.n0 (by rw[U];exact o.2.1)) h.n,?_,?_,λx d=>?_⟩
 .have e:=yMh (s:=s) (t:=t) R o.2.2;rw[<-rq c]at e;rw[<-e];exact m.tb
 .rw[rq c,yFc];refine F.mod m.md (λx d e=>?_);obtain e|e:=e
  .exact yFe F S.Z (by rw[h.ty];exact C) d e
  .obtain⟨c1,h1⟩:=WC F d;obtain⟨_,D,⟨es,clock,O,_⟩,_⟩:=S.map.get e;rw[h1]at O
   cases O
 .have l:∀x,x<w1.heap.size->u.own x->q.own x:=λx d X=>by
   rcases h.own x X with e|e
   .exact e
   .omega
  have K:Mod (λx=>x=q.b\/q.own x) w1 A:=h.md.trans' H.md (λx d e=>by
   obtain⟨j,e⟩|e:=e
   .exact .inr (l x d (.inr ⟨a,j,o.1,e⟩))
   .omega)
  have J:Mod (λx=>x=q.b\/q.own x) w1 r:=K.trans' T (λx d e=>by have:=E x e;omega);exact J.trans' m.md (λx d e=>by
   obtain e|e:=e
   .exact .inl (by rw[e,h.b])
   .exact .inr (l x d (.inl e)))
 .rcases m.own x d with e|e|⟨j,e⟩
  .exact h.own x e
  .have:=T.size;exact .inr (by omega)
  .rcases H.vo j x e with Q|Q
   .exact h.own x Q
   .exact .inr (by omega)
theorem yHk(B N:Nat)(q:jB)(s:gU)(t:Int)(w:World)(h:qD w B N q s)(hty:q.t≠202)(hN:N<=390)(GJ:q.n<=10000)(hB:B<=w.heap.size) :
  Calls Tryz.prog 108 #[.pointer (some ⟨q.b,q.pre.length,none⟩),.int .i64 t] w λe w'=>∃gv p f,e=.returned gv/\UU w w' B N q p s t gv f:=by
 obtain⟨i0,hi,hz0,hz1,hz2⟩:=A3 Tryz.LQ;have HOF:=dk (LA B N q s t w h (by omega) (by omega));have HT:=dk h;have hqbw:=h.Z.lt;clear h;go_enter Tryz.func108,Tryz.ntmps108;go_wp2_with fail;refine HOF.out.mono ?_;rintro e w1⟨nv,f,rfl,L,hns,qS,hkl,dy⟩;obtain⟨na,iq,hnv0,hnc1,hnc2⟩:=gD.slice L;subst hnv0;unfold maxLen at hnc2;have Ya:=dk L;have W:=dk hns;have fh:=dk dy;have AT:=dy.size;have Uv:Hid (∀x,(Value.slice na f.length iq).ownBlock=some x->¬(x=q.b\/q.own x)):=λx d e=>by
  have h1:=qS x d;obtain e|e:=e
  .omega
  .have:=(HT.out.lt e).2;omega
 have HQO:Hid (∀x,q.own x->x<w1.heap.size):=λx d=>aJ (HT.out.lt d).2 AT;have VI:Hid (Ar w w1 w1 B N q q s t f 0 (.slice none 0 0)):=
  ⟨by rw[bu,yMi];exact HT.out.mod dy id (λ_ _=>id),rfl,rfl,rfl,rfl,aD _,by rw[bu];exact A6 _ _ _ _,Mod.refl _ _,λx d=>.inl d⟩
 have HGL:Hid (∀i,i<=f.length->(pc s t (f.take i)).length<=10000*390):=λi hik=>by
  have:=zZp s t 390 (f.take i) (λk hk=>by
   have:=HT.out.few k ((W.out.2 k).1 (cS hk)).1;omega)
  have h2:(f.take i).length<=10000:=by rw[af];omega
  exact aO this (dZ _ h2)
 have hqb1:q.b<w1.heap.size:=by omega
 clear L hns qS dy HOF;go_wp2_with fail;go_loopw [5,15] (λg0 i0 wr=>∃(i:Nat) (p:jB),i<=f.length/\i0=.int .i64 i/\Ar w w1 wr B N q p s t f i g0) (λ_ i0 _=>f.length-(intOf i0).toNat)
 case atStart=>exact⟨0,q,aT _,rfl,VI.out⟩
 case round=>
  obtain⟨i,p,hik,rfl,m⟩:=hrel;clear VI;obtain⟨wo,hwo⟩:∃x,x=wr:=⟨_,rfl⟩;subst hwo;by_cases hlt:i<f.length
  .obtain⟨name,hname⟩:∃k,f[i]?=some k:=⟨_,aA hlt⟩;have hin:=(W.out.2 name).1 (aC hname);have o:=hin.1;have X:uI s t (f.take i) name=s name:=by
    refine yJy (λhm=>?_);obtain⟨j,hj⟩:=aP hm;rw[dB]at hj;split at hj
    .rename_i wy;obtain⟨a1,a2⟩:=aB.1 hj;obtain⟨b1,b2⟩:=aB.1 hname;have:=aq.1 W.out.1 j i a1 b1 wy;rw[a2,b2]at this;exact zZh _ this
    .cases hj
   obtain⟨nb,noff,rfl,_,n0⟩:=(Ya.out.mod m.md Uv.out).at hname;have c0:=m.tb.cell;rw[m.b,m.pre]at c0;have z0:=m.tb.Z.lt;rw[m.b]at z0;have mU:=m.tb.look o;obtain⟨ha,hcap,Y⟩:=fU (m.tb.rows name true o id);obtain⟨wa,gW,jI⟩:=fU (m.tb.rows name false o id);obtain⟨D,A,GZ⟩:=fU m.gr;subst GZ;have fy:=m.tb.few name o;rw[X]at Y jI fy;have e1:(s name).list true=(s name).held:=rfl;have e2:(s name).list false=(s name).waits:=rfl;rw[e1]at Y;rw[e2]at jI;obtain⟨w3,hw3⟩:∃x,x=wo.alloc (.cells #[p.hd name true,p.hd name false] 168):=⟨_,rfl⟩;have eK:Mod dt wo w3:=by rw[hw3];exact(Mod.refl _ wo).alloc _
   have O:dx w3 wo.heap.size [p.hd name true,p.hd name false] 168:=by rw[hw3];exact dx.new wo [p.hd name true,p.hd name false] 168
   have hky:NS w3 B wo.heap.size (p.hd name true) (p.hd name false) (s name).held (s name).waits:=by
    have hr1:=(m.tb.rows name true o id).mod eK (λ_ _=>id);have hr2:=(m.tb.rows name false o id).mod eK (λ_ _=>id);rw[X]at hr1 hr2;exact⟨O,hr1,hr2,λx h1 h2=>by have:=(m.tb.apart name name true false x o o h1 h2).2;cases this⟩
   have FM:=dk (yQw B wo.heap.size _ _ _ _ t w3 hky (by omega) (by omega));have DW:=m.tb.ok name o;rw[X]at DW;have z:=dk m;have Uw:=dk hname;have zX:=dk X;have jC:=dk eK;have QM:=dk DW;have HBZ:Hid (wo.heap.size<w3.heap.size):=O.lt;have XD:=m.md.size;have jq:(i:Int)<(f.length:Int):=by omega
   have mT:(0:Int)<=(i:Int):=by omega
   rw[Y,jI]at mU hw3;have Dx:=dk Y;have De:=dk jI;clear m hname X eK O hky Y jI e1 e2 DW hin;go_upto_region 6 with fail;rw[<-hw3];clear hw3 mU c0 n0;go_wp2_with fail;refine FM.out.mono ?_;rintro e w4⟨rfl,hv4,wv4,M,Sq,ho2,gw⟩;have hle1:=Qw (s name).held t;have TN:=Qw (s name).waits t;have Ur:=dk (yUt B wo.heap.size hv4 wv4 _ _ w4 M (Ea QM.out.held t) (by omega) (by omega) (by have:=gw.size;have:=jC.out.size;omega));have Du:=dk M;have YU:=dk Sq;have HO2:=dk ho2;have uD:=dk gw;clear M Sq ho2 gw FM;go_upto_region 7 with fail;go_wp2_with (first
   |(go_at_call 143;refine Ur.out.mono ?_;rintro e U⟨got,tQ,Fi,rfl,hP⟩;obtain⟨gta,UN,hgt⟩:=fU (show fe U B got (jW (s name) t)from hP.got);subst hgt)
   |go_in)
   have E:=yUm z.out.tb o jC.out HBZ.out (by rw[zX.out];exact Du.out) YU.out HO2.out uD.out (by rw[zX.out];exact hP);rw[zX.out]at E;obtain⟨v,hv⟩:∃v:Bool->Value,v=λi=>if i then tQ else Fi:=⟨_,rfl⟩
   rw[<-hv]at E;have wY:v true=tQ:=by rw[hv];rfl
   have Cf:v false=Fi:=by rw[hv];rfl
   have H:=dk E;have hgl:=yRo (s name) t;have hGL:=HGL.out i hik;have DL:=λx d=>yRn z.out.gr z.out.tb (by rw[z.out.ty];exact hty) (x:=x) d;have QP:=dk DL;have S:Hid (∀x,(Value.slice D (pc s t (f.take i)).length A).ownBlock=some x->w1.heap.size<=x/\x<wo.heap.size):=λx d=>⟨(nN z.out.gr d).1,(nN z.out.gr d).2.1⟩;have PD:oA U w1.heap.size (.slice D (pc s t (f.take i)).length A) (pc s t (f.take i)):=z.out.gr.mod E.md (λx d e=>by
    obtain⟨j,e⟩|e:=e
    .exact(DL x d).2 (.inr ⟨name,j,o,e⟩)
    .have:=(S.out x d).2;omega)
   have T:=dk PD;have Ub:=dk wY;have HVF:=dk Cf;have HNG:Hid (∀x,(Value.slice D (pc s t (f.take i)).length A).ownBlock=some x->(Value.slice gta (jW (s name) t).length UN).ownBlock≠some x):=λx d=>yFd PD E.got d;have hzr6:=E.md.size;have HLH:Hid (se tQ/\se Fi):=⟨Qp (by rw[<-wY];exact E.kept.row true),Qp (by rw[<-Cf];exact E.kept.row false)⟩;generalize hGN:(pc s t (f.take i)).length=gn at hGL S T HNG QP z;have R:=dk hGN;clear hP E DL PD hv wY Cf Ur Du YU HO2 uD hGN;go_loopw [5,29] (λg1 j0 wq=>∃j:Nat,j<=(jW (s name) t).length/\j0=.int .i64 j/\oA wq w1.heap.size g1 (pc s t (f.take i)++((jW (s name) t).take j).map (nC name))/\(g1.ownBlock=(Value.slice D gn A).ownBlock\/∀x,g1.ownBlock=some x->U.heap.size<=x)/\Mod (λx=>(Value.slice D gn A).ownBlock=some x) U wq) (λ_ j0 _=>(jW (s name) t).length-(intOf j0).toNat)
   case atStart=>exact⟨0,aT _,rfl,by simpa using T.out,.inl rfl,Mod.refl _ _⟩
   case round=>
    obtain⟨j,hjl,rfl,C,F,Oy⟩:=hrel;have J:=dk F;clear F;obtain⟨Q,DZ,hg1⟩:=fU C;subst hg1;have gG:=dk C;have V:=dk Oy;have hz6q:=Oy.size;clear C Oy T;by_cases qW:j<(jW (s name) t).length
    .obtain⟨c,hc⟩:∃c,(jW (s name) t)[j]?=some c:=⟨_,aA qW⟩;obtain⟨tb,toff,rfl,_,q0,q1⟩:=((H.out.got.mod V.out (λx d e=>HNG.out x e d)).nO (aD _)).at hc;obtain⟨w8,XG⟩:∃x,x=wr.alloc (.cells #[.int .i64 c.I,.int .i64 c.mode] 170):=⟨_,rfl⟩;have oJ:Mod dt wr w8:=by rw[XG];exact(Mod.refl _ wr).alloc _
     have pV:dx w8 wr.heap.size (gC c) 170:=by rw[XG];exact dx.new wr (gC c) 170
     have y0:=pV.cell 0 rfl;have y1:=pV.cell 1 rfl;have hz8:=pV.lt;have Di:=dk (gG.out.mod oJ (λ_ _=>id));have GP:=yBt (nC name) hc;have HMT:=dk GP;have nT:(pc s t (f.take i)++((jW (s name) t).take j).map (nC name)).length=gn+j:=by rw[aE,R.out,ao,af];omega
     rw[nT]at Di⊢;have Un:Hid (w8.ownsRow w1.heap.size 202 3 (.slice Q (gn+j) DZ) (gn+j) (EP (pc s t (f.take i)++((jW (s name) t).take j).map (nC name)))):=by
      have r:=Di.out;unfold oA at r;rw[nT]at r;exact r
     have K:=dk nT;have iu:gn+j+1<=maxLen:=by unfold maxLen;omega
     have iv:(gn+j+1)*32<=140737488355328:=by omega
     have hbz:w1.heap.size<=w8.heap.size:=by have:=oJ.size;omega
     have VA:=dk oJ;have MA:(j:Int)<((jW (s name) t).length:Int):=by omega
     have PA:(0:Int)<=(j:Int):=by omega
     clear hc oJ pV GP nT Di;go_upto_region 10 with fail;rw[<-XG];clear XG q0 q1;go_wp2_with (first
     |(at_builtin;refine B1 _ rfl (.tmp 33) (.tmp 40) 163 rfl w1.heap.size 202 i0 _ 3 32 Tryz.underlying163 hi hz0 hz1 hz2 rfl (by omega) _ _ _ rfl (Un.out.alloc _) ⟨w8.heap.size,0,none⟩ 1 1 (QW (nC name c)) rfl rfl (A7 (A0 w8 _)) (yFb _) iu iv (by simp;omega) ?_)
     |fail)
     intro v9 w9 nS mX _ xF;have ru:Mod (λx=>(Value.slice Q (gn+j) DZ).ownBlock=some x) w8 w9:=((Mod.refl _ w8).alloc _).grown mX (λx d _=>d);have TD:Mod (λx=>(Value.slice D gn A).ownBlock=some x) U w9:=(V.out.trans (VA.out.mono (λ_ _ e=>e.elim))).trans' ru (λx d e=>by
      have e':(Value.slice Q (pc s t (f.take i)++((jW (s name) t).take j).map (nC name)).length DZ).ownBlock=some x:=by rw[K.out];exact e
      obtain r|r:=J.out
      .rw[<-r];exact e'
      .have:=r x e';omega)
     have uh:v9.ownBlock=(Value.slice D gn A).ownBlock\/∀x,v9.ownBlock=some x->U.heap.size<=x:=by
      obtain e|e:=xF
      .obtain r|r:=J.out
       .left;rw[e,<-r,K.out]
       .right;intro x d;exact r x (by rw[K.out,<-e];exact d)
      .right;intro x d;rw[e]at d;simp at d;have:=VA.out.size;omega
     obtain⟨a9,US,hv9⟩:=fU nS;subst hv9;have HM69:=dk TD;have HL9:=dk uh;have HW9:Hid (oA w9 w1.heap.size (.slice a9 (gn+j+1) US) (pc s t (f.take i)++((jW (s name) t).take (j+1)).map (nC name))):=by
      rw[HMT.out,Hid];unfold oA;rw[<-aV,zTs (pc s t (f.take i)++((jW (s name) t).take j).map (nC name)),aE,K.out];have:EP [nC name c]=QW (nC name c):=by simp[EP]
      rw[this,List.map_take];exact nS
     clear nS mX xF ru TD uh;go_wp2_with fail;go_roundw
     case rel=>exact⟨j+1,by omega,by go_num,HW9.out,HL9.out,HM69.out⟩
     case measure=>simp[intOf];omega
    .obtain rfl:j=(jW (s name) t).length:=by omega
     have u:=gG.out;rw[bQ]at u;have y:∀x,(Value.slice D gn A).ownBlock=some x->x<wo.heap.size/\¬p.own x/\x≠p.b:=λx d=>⟨(S.out x d).2,(QP.out x d).2,(QP.out x d).1⟩;have hvx:∀(l:Bool) x,(v l).ownBlock=some x->¬(Value.slice D gn A).ownBlock=some x:=λl x d e=>by
      rcases H.out.vo l x d with e2|e2
      .exact(y x e).2.1 e2
      .have:=(y x e).1;omega
     have PL:kx wr B N p (uI s t (f.take i)) (·=name):=H.out.I.turn V.out (λe=>(y _ e).2.2 rfl) (λx d e=>(y x e).2.1 (.inl d)) (λk l x hk _ d e=>(y x e).2.1 (.inr ⟨k,l,hk,d⟩));have Xh:EG wr B p name v (my (s name) t):=⟨λl=>(H.out.kept.row l).mod V.out (λx d e=>hvx l x d e),H.out.kept.ne,H.out.kept.out⟩;have MI:dx wr wo.heap.size [v true,v false] 168:=H.out.Z.mod V.out (λe=>by have:=(y _ e).1;omega);have DF:=yBw B N N p (uI s t (f.take i)) name v (my (s name) t) wr PL o Xh (Kz QM.out t) (aO (yYb (s name) t) fy) (aD _) (by have:=z.out.n;omega) (by omega);rw[z.out.b,z.out.pre,Ub.out,HVF.out]at DF;have Bo:=dk DF;have HTQ:=dk PL;have FG:=dk u;have k0:=MI.cell 0 rfl;have k1:=MI.cell 1 rfl;rw[Ub.out]at k0;rw[HVF.out]at k1;have XE:=MI.lt;have P:=HLH.out;have K:Hid ((pc s t (f.take i)++((jW (s name) t).take (jW (s name) t).length).map (nC name)).length=gn+(jW (s name) t).length):=by rw[Hid,aE,R.out,ao,af];omega
     rw[K.out];have Az:Hid ((pc s t (f.take i)++(jW (s name) t).map (nC name)).length=gn+(jW (s name) t).length):=by rw[Hid,aE,R.out,ao]
     obtain⟨h6a,h6n,h6c,hh6⟩:∃a n c,tQ=.slice a n c:=by obtain e|⟨a,n,c,e⟩:=P.1 <;> exact⟨_,_,_,e⟩
     obtain⟨w6a,w6n,w6c,uW⟩:∃a n c,Fi=.slice a n c:=by obtain e|⟨a,n,c,e⟩:=P.2 <;> exact⟨_,_,_,e⟩
     rw[hh6]at k0 Bo;rw[uW]at k1 Bo;clear u y hvx PL Xh MI DF P hh6 uW;go_upto_region 12 with fail;go_wp2_with (first
     |(go_at_call 113;refine Bo.out.mono ?_;rintro e w7⟨rfl,q2,hQ⟩;have gp:=dk (Ar.next z.out hty Uw.out W.out HQO.out hqb1 H.out V.out FG.out hQ HTQ.out);clear hQ)
     |go_in)
     go_roundw
     case rel=>exact⟨i+1,q2,by omega,by go_num,by have r:=gp.out;first|(rw[Az.out]at r;exact r)|(rw[K.out]at r;exact r)⟩
     case measure=>simp[intOf];omega
  .obtain rfl:i=f.length:=by omega
   obtain⟨D,A,GZ⟩:=fU m.gr;subst GZ;have gp:Hid (UU w wo B N q p s t (.slice D (pc s t (f.take f.length)).length A) f):=by
    have Ej:=m.tb;have hgr:=m.gr;rw[bQ]at Ej hgr⊢;exact⟨W.out,Ej.congr (λk hk=>yQc W.out k hk),m.b,m.pre,m.post,m.ty,m.n,vl hgr AT,(fh.out.mono (λ_ _ e=>e.elim)).trans m.md,λx d=>(m.own x d).imp id (λe=>aO AT e)⟩
   clear m;go_wp2_with fail;go_ret;exact⟨_,p,f,rfl,gp.out⟩

inductive Tag where
|no|main|J|tab|dead|gN|iC
|A (b:Nat)|node (b:Nat)|I (b:Nat)
 deriving DecidableEq
structure dq where
 lv:Value
 dr:Nat
 wv:Value
 mr:Option Nat
 tv:Value
 gd:List Nat
 sf:Nat->Value
 fu:Nat->List Nat
 lF:Nat->Value
 lG:Nat->Value
 kP:List Nat
 jy:Nat->Value
 kT:Nat->Value
 q:jB
 own:Nat->Tag
def dq.lo(y:dq)(n:Nat):Lo:=⟨n,λk=>∃t∈y.kP,(y.kT t).ownBlock=some k⟩
def dq.ext(y:dq):Ext:=⟨y.lv,.map (some y.dr),.map y.q.m,y.tv⟩
def jd(b:Nat):Value:=.pointer (some ⟨b,0,none⟩)
def OJ(y:dq)(lost:Int):List Value:=[y.lv,.map (some y.dr),y.wv,.int .i64 lost,.map y.mr,.map y.q.m,y.tv]
def zj(w:World)(n:Nat)(y:dq)(b:Nat)(s:ec):Prop:=gI w (y.lo n) b (y.lF b) (y.lG b) s
structure Bz(w:World)(n:Nat)(y:dq)(b:Nat)(l:jS):Prop where
 Z:dx w b [y.sf b,.int .i64 l.heard] 120
 row:w.ownsRow n 91 1 (y.sf b) (y.fu b).length ((y.fu b).map jd)
 len:(y.fu b).length=l.nodes.length
 node:∀(j c:Nat) s,(y.fu b)[j]?=some c->l.nodes[j]?=some s->zj w n y c s
structure vG(w:World)(n:Nat)(y:dq)(b:Nat)(t:jz):Prop where
 Z:dx w b [.int .i64 t.state,y.jy b,y.kT b,.int .i64 t.time] 86
 ats:w.ownsRow n 3 1 (y.jy b) t.ats.length (t.ats.map (Value.int .i64))
 wr:w.ownsRow n 68 3 (y.kT b) t.writes.length (t.writes.flatMap pN)
structure vL(w:World)(L:Lo)(wv:Value)(mr:Option Nat)(s:fS):Prop where
 row:fF w L wv s.way
 dn:qy w L mr s.down
 few:s.way.length<=200
 lo:0<=s.lost/\s.lost<=4611686018427387904
structure vI(w:World)(n N:Nat)(q:jB)(s:gU):Prop where
 map:rZ w n q.m q.n q.hd s
 hdr:∀k i,gP k->se (q.hd k i)
 rows:∀k i,gP k->fe w n (q.hd k i) ((s k).list i)
 apart:∀k k' i i' x,gP k->gP k'->(q.hd k i).ownBlock=some x->(q.hd k' i').ownBlock=some x->k=k'/\i=i'
 ok:∀k,gP k->nY (s k)
 few:∀k,gP k->(s k).held.length+(s k).waits.length<=N
structure As(w:World)(n g:Nat)(y:dq):Prop where
 main:y.own g=.main
 gN:∀k,y.lv.ownBlock=some k->y.own k=.gN
 iC:∀k,y.tv.ownBlock=some k->y.own k=.iC
 J:∀k,y.wv.ownBlock=some k\/y.mr=some k->y.own k=.J
 dead:y.own y.dr=.dead
 tab:∀k,y.q.own k->y.own k=.tab
 A:∀b∈y.gd,y.own b=.A b/\∀k,(y.sf b).ownBlock=some k->y.own k=.A b
 node:∀b∈y.gd,∀c∈y.fu b,∀k,iV c (y.lF c) (y.lG c) k->y.own k=.node c
 I:∀b∈y.kP,y.own b=.I b/\∀k,(y.jy b).ownBlock=some k\/(y.kT b).ownBlock=some k->y.own k=.I b
 lt:∀k,y.own k≠.no->n<=k/\k<w.heap.size
 Eh:y.gd.Nodup
 Ir:y.kP.Nodup
 Ba:(y.gd.flatMap y.fu).Nodup
structure eJ(w:World)(n c g:Nat)(y:dq)(s:dp):Prop where
 Z:dx w g (OJ y s.J.lost) 84
 J:vL w (y.lo n) y.wv y.mr s.J
 dead:qy w n (some y.dr) s.dead
 tab:vI w n 120 y.q s.keys
 qn:y.q.b=g/\y.q.t=84/\y.q.n<=c
 gN:w.ownsRow n 102 1 y.lv y.gd.length (y.gd.map jd)
 ir:y.gd.length=s.lines.length
 A:∀(k b:Nat) l,y.gd[k]?=some b->s.lines[k]?=some l->Bz w n y b l
 iC:w.ownsRow n 87 1 y.tv y.kP.length (y.kP.map jd)
 lJ:y.kP.length=s.U.length
 I:∀(i b:Nat) t,y.kP[i]?=some b->s.U[i]?=some t->vG w n y b t
 own:As w n g y
theorem yYf{y:dq}(h:As w n g y):∀k,(y.lo n).x k->k<w.heap.size:=λk ⟨t,ht,a⟩=>(h.lt k (by rw[(h.I t ht).2 k (.inr a)];simp)).2
theorem Bz.mod{y:dq}{l:jS}(h:Bz w n y b l)(a:Mod G w w')(m:Qm w (y.lo n) G)(r:¬G b)(i:∀k,(y.sf b).ownBlock=some k->¬G k)(o:∀c∈y.fu b,∀k,iV c (y.lF c) (y.lG c) k->¬G k):Bz w' n y b l:=
 ⟨h.Z.mod a r,gO h.row a (λk _ _ e=>i k e),h.len,λj c s d f=>(h.node j c s d f).mod a m (λk p=>o c (aC d) k p)⟩
theorem vG.mod{y:dq}{t:jz}(h:vG w n y b t)(a:Mod G w w')(d:¬G b)(c:∀k,(y.jy b).ownBlock=some k\/(y.kT b).ownBlock=some k->¬G k):vG w' n y b t:=
 ⟨h.Z.mod a d,gO h.ats a (λk _ _ e=>c k (.inl e)),gO h.wr a (λk _ _ e=>c k (.inr e))⟩
theorem vL.mod{L:Lo}{wv:Value}{a:Option Nat}{s:fS}(h:vL w L wv a s)(d:Mod G w w')(f:Qm w L G)(e:∀k,wv.ownBlock=some k\/a=some k->¬G k):vL w' L wv a s:=
 ⟨h.row.mod d f (λk c=>e k (.inl c)),h.dn.mod d (λk c=>e k (.inr c)),h.few,h.lo⟩
theorem vI.toP(h:vI w n N q s)(c:dx w q.b (q.pre++.map q.m::q.post) q.t)(ht:q.t≠170):qD w n N q s:=
 ⟨c,ht,h.map,h.hdr,λk i a _=>h.rows k i a,h.apart,h.ok,h.few⟩
theorem vI.mod(h:vI w n N q s)(d:Mod G w w')(j:∀x,q.own x->¬G x):vI w' n N q s:=by
 refine⟨?_,h.hdr,λk i f=>gO (h.rows k i f) d (λx _ _ e=>j x (.inr ⟨k,i,f,e⟩)),h.apart,h.ok,h.few⟩;have a:=h.map;unfold rZ at a⊢
 cases c:q.m with
|none=>rw[c]at a;exact a
|some x=>
  rw[c]at a;obtain⟨r,D,⟨t,clock,l,p⟩,o⟩:=a;refine⟨r,D,⟨t,clock,?_,p⟩,o⟩;exact(d.block x (aF.1 l).1 (j x (.inl c))).trans l
theorem eJ.quiet{c:Nat}{y:dq}{s:dp}(h:eJ w n c g y s)(a:Mod dt w w'):eJ w' n c g y s:=
 ⟨h.Z.mod a id,h.J.mod a (Qm.none _ _) (λ_ _=>id),h.dead.mod a (λ_ _=>id),h.tab.mod a (λ_ _=>id),h.qn,gO h.gN a (λ_ _ _ _=>id),h.ir,λk b l d f=>(h.A k b l d f).mod a (Qm.none _ _) id (λ_ _=>id) (λ_ _ _ _=>id),
  gO h.iC a (λ_ _ _ _=>id),h.lJ,λi b t d ht=>(h.I i b t d ht).mod a id (λ_ _=>id),{h.own with lt:=λk e=>⟨(h.own.lt k e).1,aJ (h.own.lt k e).2 a.size⟩}⟩
structure il(w:World)(y:dq)(w':World)(y':dq):Prop where
 md:Mod (λk=>y.own k≠.no) w w'
 old:∀k,k<w.heap.size->y'.own k=y.own k
theorem il.refl(w:World)(y:dq):il w y w y:=⟨Mod.refl _ _,λ_ _=>rfl⟩
theorem il.quiet{y:dq}(a:Mod dt w w'):il w y w' y:=⟨a.mono (λ_ _ e=>e.elim),λ_ _=>rfl⟩
theorem il.trans{f:World}{y d c:dq}(h:il w y w1 d)(k:il w1 d f c):il w y f c:=
 ⟨h.md.trans' k.md (λi a e=>by rw[<-h.old i a];exact e),λi a=>by rw[k.old i (aJ a h.md.size),h.old i a]⟩
theorem il.size{y a:dq}(h:il w y w' a):w.heap.size<=w'.heap.size:=h.md.size
theorem il.Z{y c:dq}(h:il w y w' c){a:List Value}{t:TypeId}(f:dx w b a t)(d:y.own b=.no):dx w' b a t:=f.mod h.md (λe=>e d)
structure nI{α:Type}(f:Nat)(iA:Array Value)(arg:α->Value)(es:List α)(p:α->Bool)(C:World->Prop):Prop where
 enter:∀(args:Array Value) (w:World),(callFunc f args).run Tryz.prog w=.ok (.enter f args) w
 keep:∀w w',C w->Mod dt w w'->C w'
 ask:∀d∈es,∀wr,C wr->Calls Tryz.prog f (#[arg d]++iA) wr λe w'=>e=.returned (.bool (p d))/\Mod dt wr w'
def jE(o:Option Nat):Int:=match o with|none=>-1|some k=>k
theorem Nr(p:α->Bool):∀(ms:List α) (k:Nat),(∀i m,i<k->ms[i]?=some m->p m=false)->∀m,ms[k]?=some m->p m=true->ms.findIdx? p=some k
|[],_,_,m,h,_=>by simp at h
|c::ms,0,_,m,h,a=>by simp at h;subst h;simp[List.findIdx?_cons,a]
|c::ms,k+1,d,m,h,a=>by
  have h0:=d 0 c (by omega) rfl;have:=Nr p ms k (λi m f e=>d (i+1) m (by omega) (by simpa using e)) m (by simpa using h) a;simp[List.findIdx?_cons,h0,this]
theorem OC(p:α->Bool):∀(ms:List α),(∀(i:Nat) m,ms[i]?=some m->p m=false)->ms.findIdx? p=none
|[],_=>rfl
|m::ms,h=>by
  have h0:=h 0 m rfl;simp[List.findIdx?_cons,h0,OC p ms (λi m a=>h (i+1) m (by simpa using a))]
theorem yCc(p:α->Bool):∀(ms:List α),decide (jE (ms.findIdx? p) ≥ 0)=ms.any p
|[]=>rfl
|m::ms=>by
  have a:=yCc p ms;by_cases h:p m=true
  .simp[List.findIdx?_cons,h,jE]
  .have c:p m=false:=by simpa using h
   rw[List.any_cons,c,Bool.false_or,<-a,cB,aH h]
   cases ms.findIdx? p with
  |none=>rfl
  |some k=>simp[jE];omega
def Wl(d:Nat)(l:List Value):Prop:=l=[.pointer (some ⟨d,0,none⟩)]
theorem zWe(f L:Nat)(E:Array Value)(p:Nat->Bool)(v:Value)(ms:List Nat)(w:World)(C:World->Prop)(x:gD w L 1 Wl v ms)(hA:nI f E (λd=>.pointer (some ⟨d,0,none⟩)) ms p C)(J:C w)(hf:ms.length<=1000000) :
  Calls Tryz.prog 96 #[v,.func (.func f) #[] E] w λe w'=>e=.returned (.int .i64 (jE (ms.findIdx? p)))/\Mod dt w w':=by
 have Y:=dk x;obtain⟨a,W,rfl,V,U⟩:=gD.slice x;have O:=dk hA;have X:=dk J;have T:=hA.enter;clear x hA J;go_enter Tryz.func96,Tryz.ntmps96;go_wp2_with fail;go_loopw [8] (λi wr=>∃k:Nat,k<=ms.length/\i=.int .i64 k/\(∀i m,i<k->ms[i]?=some m->p m=false)/\Mod dt w wr) (λi _=>ms.length-(intOf i).toNat)
 case atStart=>exact⟨0,aT _,rfl,λi m h=>by omega,Mod.refl _ _⟩
 case round=>
  obtain⟨k,hk,rfl,o,I⟩:=hrel;have u:=dk o;have t:=dk I;clear o I;by_cases y:k<ms.length
  .obtain⟨m,j⟩:∃m,ms[k]?=some m:=⟨_,aA y⟩;obtain⟨b,Q,l,rfl,_,H,_,r⟩:=gD.at Y.out j;unfold Wl at H;subst H;have P:=t.out.cell (r 0 _ rfl) id;simp only[bK,cq]at P;have M:=dk (O.out.ask m (aC j) wr (O.out.keep _ _ X.out t.out));have D:=dk j;have jq:(k:Int)<(ms.length:Int):=by omega
   have mT:(0:Int)<=(k:Int):=by omega
   clear j r;go_wp2_with fail;refine M.out.mono ?_;rintro e Z⟨rfl,K⟩;have B:=dk (t.out.trans K);clear M K
   cases F:p m with
  |true=>
    have A:=dk (Nr p ms k u.out m D.out F);go_wp2_with fail;go_ret;exact⟨by rw[A.out];rfl,B.out⟩
  |false=>
    go_wp2_with fail;go_roundw
    case rel=>
     refine⟨k+1,by omega,by go_num,λi R S c=>?_,B.out⟩;by_cases z:i<k
     .exact u.out i R z c
     .obtain rfl:i=k:=by omega
      rw[D.out]at c;cases c;exact F
    case measure=>simp[intOf];omega
  .have A:=dk (OC p ms (λi m j=>u.out i m (by have:=(aB.1 j).1;omega) j));go_wp2_with fail;go_ret;exact⟨by rw[A.out];rfl,t.out⟩
def Fe(d:gB)(l:List Value):Prop:=l=[.string d.key,.string d.val,.bool d.gone]
theorem zWd(f L:Nat)(E:Array Value)(p:gB->Bool)(v:Value)(ms:List gB)(w:World)(C:World->Prop)(x:gD w L 3 Fe v ms)(hA:nI f E (λd=>.agg #[.string d.key,.string d.val,.bool d.gone]) ms p C)(J:C w)(hf:ms.length<=1000000) :
  Calls Tryz.prog 132 #[v,.func (.func f) #[] E] w λe w'=>e=.returned (.int .i64 (jE (ms.findIdx? p)))/\Mod dt w w':=by
 have Y:=dk x;obtain⟨a,W,rfl,V,U⟩:=gD.slice x;have O:=dk hA;have X:=dk J;have T:=hA.enter;clear x hA J;go_enter Tryz.func132,Tryz.ntmps132;go_wp2_with fail;go_loopw [8] (λi wr=>∃k:Nat,k<=ms.length/\i=.int .i64 k/\(∀i m,i<k->ms[i]?=some m->p m=false)/\Mod dt w wr) (λi _=>ms.length-(intOf i).toNat)
 case atStart=>exact⟨0,aT _,rfl,λi m h=>by omega,Mod.refl _ _⟩
 case round=>
  obtain⟨k,hk,rfl,t,I⟩:=hrel;have u:=dk t;have r:=dk I;clear t I;by_cases y:k<ms.length
  .obtain⟨m,o⟩:∃m,ms[k]?=some m:=⟨_,aA y⟩;obtain⟨b,Q,l,rfl,_,H,_,c⟩:=gD.at Y.out o;unfold Fe at H;subst H;have P:=r.out.cell (c 0 _ rfl) id;simp only[bK]at P;have p1:=r.out.cell (c 1 _ rfl) id;have p2:=r.out.cell (c 2 _ rfl) id;have M:=dk (O.out.ask m (aC o) wr (O.out.keep _ _ X.out r.out));have D:=dk o;have jq:(k:Int)<(ms.length:Int):=by omega
   have mT:(0:Int)<=(k:Int):=by omega
   clear o c;go_wp2_with fail;refine M.out.mono ?_;rintro e Z⟨rfl,K⟩;have B:=dk (r.out.trans K);clear M K
   cases F:p m with
  |true=>
    have A:=dk (Nr p ms k u.out m D.out F);go_wp2_with fail;go_ret;exact⟨by rw[A.out];rfl,B.out⟩
  |false=>
    go_wp2_with fail;go_roundw
    case rel=>
     refine⟨k+1,by omega,by go_num,λi R S j=>?_,B.out⟩;by_cases z:i<k
     .exact u.out i R z j
     .obtain rfl:i=k:=by omega
      rw[D.out]at j;cases j;exact F
    case measure=>simp[intOf];omega
  .have A:=dk (OC p ms (λi m o=>u.out i m (by have:=(aB.1 o).1;omega) o));go_wp2_with fail;go_ret;exact⟨by rw[A.out];rfl,r.out⟩
def Ii(d:(eH×Value))(l:List Value):Prop:=l=[.int .i64 d.1.kind,.int .i64 d.1.I,.int .i64 d.1.time,d.2]
theorem yIe(f L:Nat)(E:Array Value)(p:(eH×Value)->Bool)(v:Value)(ms:List (eH×Value))(w:World)(C:World->Prop)(x:gD w L 4 Ii v ms)(hA:nI f E (λd=>.agg #[.int .i64 d.1.kind,.int .i64 d.1.I,.int .i64 d.1.time,d.2]) ms p C)(K:C w)(hf:ms.length<=1000000) :
  Calls Tryz.prog 126 #[v,.func (.func f) #[] E] w λe w'=>e=.returned (.int .i64 (jE (ms.findIdx? p)))/\Mod dt w w':=by
 have Z:=dk x;obtain⟨a,X,rfl,W,V⟩:=gD.slice x;have P:=dk hA;have Y:=dk K;have U:=hA.enter;clear x hA K;go_enter Tryz.func126,Tryz.ntmps126;go_wp2_with fail;go_loopw [8] (λi wr=>∃k:Nat,k<=ms.length/\i=.int .i64 k/\(∀i m,i<k->ms[i]?=some m->p m=false)/\Mod dt w wr) (λi _=>ms.length-(intOf i).toNat)
 case atStart=>exact⟨0,aT _,rfl,λi m h=>by omega,Mod.refl _ _⟩
 case round=>
  obtain⟨k,hk,rfl,t,J⟩:=hrel;have u:=dk t;have r:=dk J;clear t J;by_cases y:k<ms.length
  .obtain⟨m,o⟩:∃m,ms[k]?=some m:=⟨_,aA y⟩;obtain⟨b,R,l,rfl,_,H,_,c⟩:=gD.at Z.out o;unfold Ii at H;subst H;have Q:=r.out.cell (c 0 _ rfl) id;simp only[bK]at Q;have p1:=r.out.cell (c 1 _ rfl) id;have p2:=r.out.cell (c 2 _ rfl) id;have p3:=r.out.cell (c 3 _ rfl) id;have O:=dk (P.out.ask m (aC o) wr (P.out.keep _ _ Y.out r.out));have D:=dk o;have jq:(k:Int)<(ms.length:Int):=by omega
   have mT:(0:Int)<=(k:Int):=by omega
   clear o c;go_wp2_with fail;refine O.out.mono ?_;rintro e w5⟨rfl,M⟩;have B:=dk (r.out.trans M);clear O M
   cases F:p m with
  |true=>
    have A:=dk (Nr p ms k u.out m D.out F);go_wp2_with fail;go_ret;exact⟨by rw[A.out];rfl,B.out⟩
  |false=>
    go_wp2_with fail;go_roundw
    case rel=>
     refine⟨k+1,by omega,by go_num,λi S T j=>?_,B.out⟩;by_cases z:i<k
     .exact u.out i S z j
     .obtain rfl:i=k:=by omega
      rw[D.out]at j;cases j;exact F
    case measure=>simp[intOf];omega
  .have A:=dk (OC p ms (λi m o=>u.out i m (by have:=(aB.1 o).1;omega) o));go_wp2_with fail;go_ret;exact⟨by rw[A.out];rfl,r.out⟩
def yYa(d:ByteArray)(l:List Value):Prop:=l=[.string d]
theorem yIc(f L:Nat)(E:Array Value)(p:ByteArray->Bool)(v:Value)(ms:List ByteArray)(w:World)(C:World->Prop)(x:gD w L 1 yYa v ms)(hA:nI f E (λd=>.string d) ms p C)(J:C w)(hf:ms.length<=1000000) :
  Calls Tryz.prog 119 #[v,.func (.func f) #[] E] w λe w'=>e=.returned (.int .i64 (jE (ms.findIdx? p)))/\Mod dt w w':=by
 have Y:=dk x;obtain⟨a,W,rfl,V,U⟩:=gD.slice x;have O:=dk hA;have X:=dk J;have T:=hA.enter;clear x hA J;go_enter Tryz.func119,Tryz.ntmps119;go_wp2_with fail;go_loopw [8] (λi wr=>∃k:Nat,k<=ms.length/\i=.int .i64 k/\(∀i m,i<k->ms[i]?=some m->p m=false)/\Mod dt w wr) (λi _=>ms.length-(intOf i).toNat)
 case atStart=>exact⟨0,aT _,rfl,λi m h=>by omega,Mod.refl _ _⟩
 case round=>
  obtain⟨k,hk,rfl,o,I⟩:=hrel;have u:=dk o;have t:=dk I;clear o I;by_cases y:k<ms.length
  .obtain⟨m,j⟩:∃m,ms[k]?=some m:=⟨_,aA y⟩;obtain⟨b,Q,l,rfl,_,H,_,r⟩:=gD.at Y.out j;unfold yYa at H;subst H;have P:=t.out.cell (r 0 _ rfl) id;simp only[bK,cq]at P;have M:=dk (O.out.ask m (aC j) wr (O.out.keep _ _ X.out t.out));have D:=dk j;have jq:(k:Int)<(ms.length:Int):=by omega
   have mT:(0:Int)<=(k:Int):=by omega
   clear j r;go_wp2_with fail;refine M.out.mono ?_;rintro e Z⟨rfl,K⟩;have B:=dk (t.out.trans K);clear M K
   cases F:p m with
  |true=>
    have A:=dk (Nr p ms k u.out m D.out F);go_wp2_with fail;go_ret;exact⟨by rw[A.out];rfl,B.out⟩
  |false=>
    go_wp2_with fail;go_roundw
    case rel=>
     refine⟨k+1,by omega,by go_num,λi R S c=>?_,B.out⟩;by_cases z:i<k
     .exact u.out i R z c
     .obtain rfl:i=k:=by omega
      rw[D.out]at c;cases c;exact F
    case measure=>simp[intOf];omega
  .have A:=dk (OC p ms (λi m j=>u.out i m (by have:=(aB.1 j).1;omega) j));go_wp2_with fail;go_ret;exact⟨by rw[A.out];rfl,t.out⟩
def OZ(d:Int)(l:List Value):Prop:=l=[.int .i64 d]
theorem yId(f L:Nat)(E:Array Value)(p:Int->Bool)(v:Value)(ms:List Int)(w:World)(C:World->Prop)(x:gD w L 1 OZ v ms)(hA:nI f E (λd=>.int .i64 d) ms p C)(J:C w)(hf:ms.length<=1000000) :
  Calls Tryz.prog 134 #[v,.func (.func f) #[] E] w λe w'=>e=.returned (.int .i64 (jE (ms.findIdx? p)))/\Mod dt w w':=by
 have Y:=dk x;obtain⟨a,W,rfl,V,U⟩:=gD.slice x;have O:=dk hA;have X:=dk J;have T:=hA.enter;clear x hA J;go_enter Tryz.func134,Tryz.ntmps134;go_wp2_with fail;go_loopw [8] (λi wr=>∃k:Nat,k<=ms.length/\i=.int .i64 k/\(∀i m,i<k->ms[i]?=some m->p m=false)/\Mod dt w wr) (λi _=>ms.length-(intOf i).toNat)
 case atStart=>exact⟨0,aT _,rfl,λi m h=>by omega,Mod.refl _ _⟩
 case round=>
  obtain⟨k,hk,rfl,o,I⟩:=hrel;have u:=dk o;have t:=dk I;clear o I;by_cases y:k<ms.length
  .obtain⟨m,j⟩:∃m,ms[k]?=some m:=⟨_,aA y⟩;obtain⟨b,Q,l,rfl,_,H,_,r⟩:=gD.at Y.out j;unfold OZ at H;subst H;have P:=t.out.cell (r 0 _ rfl) id;simp only[bK,cq]at P;have M:=dk (O.out.ask m (aC j) wr (O.out.keep _ _ X.out t.out));have D:=dk j;have jq:(k:Int)<(ms.length:Int):=by omega
   have mT:(0:Int)<=(k:Int):=by omega
   clear j r;go_wp2_with fail;refine M.out.mono ?_;rintro e Z⟨rfl,K⟩;have B:=dk (t.out.trans K);clear M K
   cases F:p m with
  |true=>
    have A:=dk (Nr p ms k u.out m D.out F);go_wp2_with fail;go_ret;exact⟨by rw[A.out];rfl,B.out⟩
  |false=>
    go_wp2_with fail;go_roundw
    case rel=>
     refine⟨k+1,by omega,by go_num,λi R S c=>?_,B.out⟩;by_cases z:i<k
     .exact u.out i R z c
     .obtain rfl:i=k:=by omega
      rw[D.out]at c;cases c;exact F
    case measure=>simp[intOf];omega
  .have A:=dk (OC p ms (λi m j=>u.out i m (by have:=(aB.1 j).1;omega) j));go_wp2_with fail;go_ret;exact⟨by rw[A.out];rfl,t.out⟩
theorem zXw(f L:Nat)(c:Array Value)(p:ByteArray->Bool)(v:Value)(ms:List ByteArray)(w:World)(C:World->Prop)(h:gD w L 1 yYa v ms)(hA:nI f c (λd=>.string d) ms p C)(m:C w)(j:ms.length<=1000000) :
  Calls Tryz.prog 73 #[v,.func (.func f) #[] c] w λe w'=>e=.returned (.bool (ms.any p))/\Mod dt w w':=by
 have t:=dk (yIc f L c p v ms w C h hA m j);obtain⟨a,o,rfl,l,k⟩:=gD.slice h;have r:=dk (yCc p ms);clear h hA;go_enter Tryz.func73,Tryz.ntmps73;go_wp2_with fail;refine t.out.mono ?_;rintro e w1⟨rfl,i⟩;go_wp2_with fail;go_ret;exact⟨by rw[<-r.out];rfl,i⟩
theorem zXx(f L:Nat)(c:Array Value)(p:Int->Bool)(v:Value)(ms:List Int)(w:World)(C:World->Prop)(h:gD w L 1 OZ v ms)(hA:nI f c (λd=>.int .i64 d) ms p C)(m:C w)(j:ms.length<=1000000) :
  Calls Tryz.prog 93 #[v,.func (.func f) #[] c] w λe w'=>e=.returned (.bool (ms.any p))/\Mod dt w w':=by
 have t:=dk (yId f L c p v ms w C h hA m j);obtain⟨a,o,rfl,l,k⟩:=gD.slice h;have r:=dk (yCc p ms);clear h hA;go_enter Tryz.func93,Tryz.ntmps93;go_wp2_with fail;refine t.out.mono ?_;rintro e w1⟨rfl,i⟩;go_wp2_with fail;go_ret;exact⟨by rw[<-r.out];rfl,i⟩
end Go.Proofs.YtmaiggbnceejiaaGreatDoor
namespace Go.Proofs.YtmaiggbnceejiaaGreatDoor
open Go.RowKit Go.Lib Go.Maps
variable {α:Type}{w wr wr':World}{B b k0 i j m cap k g n c:Nat}{v:Value}{o:Oper}{a:Act}{p:Nat->Bool}{ms:List Nat}{R:List Value}{y:dq}{s:dp}
def jb{α:Type}(p:α->Bool)(ms:List α):List α:=ms.filter (λm=>!p m)
theorem WD(p:α->Bool)(ms:List α)(m:α):jb p (ms++[m])=if p m then jb p ms else jb p ms++[m]:=by
 unfold jb;rw[dE]
 cases h:p m <;> simp[h]
theorem Yp(p:α->Bool):∀ms:List α,ms.findIdx? p=none->jb p ms=ms
|[],_=>rfl
|m::ms,h=>by
  rw[cB]at h;split at h
  .cases h
  .rename_i e;have d:p m=false:=by simpa using e
   have:=Yp p ms (by simpa using h);unfold jb at this⊢;rw[cE,aK (by simp[d]),this]
theorem ZP(p:α->Bool):∀(ms:List α) k,ms.findIdx? p=some k->k<ms.length/\jb p (ms.take (k+1))=ms.take k
|[],_,h=>by simp at h
|m::ms,k,h=>by
  rw[cB]at h;split at h
  .rename_i e;simp at h;subst h;refine⟨by simp,?_⟩;simp[jb,e]
  .rename_i e;have d:p m=false:=by simpa using e
   obtain⟨q,f,rfl⟩:=cN.1 h;obtain⟨r,l⟩:=ZP p ms q f;refine⟨by simp;omega,?_⟩;unfold jb at l⊢;rw[az,cE,aK (by simp[d]),l,az]
def qd(d:Nat):List Value:=[.pointer (some ⟨d,0,none⟩)]
def kc(d:List Nat):List Value:=d.flatMap qd
theorem KQ:∀e,(kc e).length=e.length*1
|[]=>rfl
|d::e=>by
  have f:=KQ e;unfold kc at f⊢;rw[bN,aE,f];simp[qd];omega
theorem yDq(a b:List Nat):kc (a++b)=kc a++kc b:=by simp[kc]
theorem KV(d:Nat)(b:List Nat):kc (d::b)=qd d++kc b:=by simp[kc]
theorem yQa(f:List Nat)(l:∀d∈f,∀u∈qd d,u.oneCell'=true):∀u∈kc f,u.oneCell'=true:=by
 intro u h;obtain⟨d,q,e⟩:=cV.1 h;exact l d q u e
theorem zYx:∀(os:List Nat) (i:Nat) (o:Nat),os[i]?=some o->∀j x,(qd o)[j]?=some x->(kc os)[i*1+j]?=some x
|[],i,o,h,_,_,_=>by simp at h
|p::os,0,o,h,j,x,d=>by
  simp at h;subst h;have l:j<(qd p).length:=(aB.1 d).1;rw[KV,cr,aY,aG l];exact d
|p::os,i+1,o,h,j,x,d=>by
  have e:=zYx os i o (by simpa using h) j x d;have f:(qd p).length=1:=rfl;rw[KV,aL (by omega),f,show(i+1)*1+j-1=i*1+j by omega];exact e
theorem Yv{d:List Nat}(h:w.ownsRow B 91 1 v d.length (kc d)):gD w w.heap.size 1 Wl v d:=by
 obtain⟨u,t⟩:=h;obtain⟨rfl,hn⟩|⟨g,cap,cur,rfl,q1,q2,q3,q4,q5,q6⟩:=t
 .have:d=[]:=aR hn;subst this;exact gD.nil _ _ _ _
 .have r:w.ownsRow B 91 1 (.slice (some ⟨g,0,none⟩) d.length cap) d.length (kc d):=⟨u,.inr ⟨g,cap,cur,rfl,q1,q2,q3,q4,q5,q6⟩⟩;have e:=r.cells (g:=g) rfl;have q:g<w.heap.size:=(aF.1 q2).1;refine⟨_,cap,rfl,q3,q4,.inr ⟨g,0,rfl,by omega,λi o l=>⟨qd o,rfl,rfl,λj x f=>?_⟩⟩⟩;have:=e _ _ (zYx d i o l j x f);rw[A1,aY]at this;rw[aY];exact this
def yGq:Array Value:=#[.pointer none]
def AF(n:Nat):List Value:=(Builtin.zeroCells yGq n).toList
theorem Zs(n:Nat):(AF n).length=n*1:=by rw[AF,cM,size_zeroCells];rfl
theorem yGo(n:Nat):∀v∈AF n,v.oneCell'=true:=by
 intro v d;simp only[AF,Builtin.zeroCells,dU,aj]at d;obtain⟨i,_,rfl⟩:=d;have f:∀j,j<1->(yGq[j]!).oneCell'=true:=by
  intro j e
  match j,e with
 |0,_=>rfl
 exact f _ (dP _ (by decide))
theorem yXl(w:World):(zeroValue 91).run Tryz.prog w=.ok (.pointer none) w:=by kernel_rfl
theorem yHi(w:World)(f:TypeId)(b o n c:Nat)(r:0<n)(q:∀j,j<n*1->(w.cell? ⟨b,o+j,none⟩).isSome=true)(l:∀j,j<n*1->w.frozen? ⟨b,o+j,none⟩=false) :
  (Builtin.clear_ #[99] f #[.slice (some ⟨b,o,none⟩) n c]).run Tryz.prog w=.ok (.tuple #[]) (w.setCells b o (AF n)):=by
 have d:=B3 (P:=Tryz.prog) b o (AF n) 0 w (by simpa[Zs]using q) (by simpa[Zs]using l) (yGo n);simp only[bK]at d;obtain⟨m,rfl⟩:∃m,n=m+1:=⟨n-1,by omega⟩;have h:=yXl;have e:(Value.cells (.pointer none))=yGq:=rfl;simp only[AF]at d⊢;simp[Builtin.clear_,run_underlying Tryz.underlying99,h,e,d]
theorem zXs{w:World}{e:Array Oper}{rest:List Oper}{Q:Exit->Act->World->Prop}(f:o.guard=none)(s:Operand)
  (r:o.op=.call {callee:=.builtin .clear,args:=#[s],argTypes:=#[99]}) (b d n c:Nat) (l:a.eval s=.slice (some ⟨b,d,none⟩) n c) (t:0<n)
  (x:∀j,j<n*1->(w.cell? ⟨b,d+j,none⟩).isSome=true) (u:∀j,j<n*1->w.frozen? ⟨b,d+j,none⟩=false)
  (h:wpList Tryz.prog e Q rest (a.put o.dst (.tuple #[])) (w.setCells b d (AF n))):wpList Tryz.prog e Q (o::rest) a w:=by
 refine A2 f λK z=>?_;have q:=yHi w o.type b d n c t x u;unfold Oper.wp execOp;simp only[r,resolve,invoke,builtin,Sem.run_bind,Sem.run_pure,Result.andThen_ok,cD,bZ,cO,l,q];exact z _ _ h
def vR(w wr:World)(b:Nat)(p:Nat->Bool)(ms:List Nat)(R:List Value)(i j:Nat):Prop:=
 ∃d:List Value,i=(jb p (ms.take j)).length/\d.length=(j-i)*1/\i<j/\j<=ms.length /\
  dx wr b (kc (jb p (ms.take j))++d++(kc (ms.drop j)++R)) 91/\Mod (eQ b) w wr
theorem vR.start(l:k0<ms.length)(d:jb p (ms.take (k0+1))=ms.take k0)(hB:dx w b (kc ms++R) 91)(f:Mod dt w wr):vR w wr b p ms R k0 (k0+1):=by
 obtain⟨m,hm0⟩:∃m,ms[k0]?=some m:=⟨_,aA l⟩;have h:ms=ms.take k0++m::ms.drop (k0+1):=by
  rw[<-wJ hm0,ar]
 refine⟨qd m,by rw[d,af];omega,by simp[qd],by omega,by omega,?_,f.mono (λ_ _ e=>e.elim)⟩;rw[d];have:=hB.mod f id;have e:kc ms=kc (ms.take k0)++(qd m++kc (ms.drop (k0+1))):=by
  conv=>lhs;rw[h]
  rw[yDq,KV]
 rw[e]at this;simpa[List.append_assoc]using this
theorem vR.look(h:vR w wr b p ms R i j)(q:ms[j]?=some m) :
  ∀n x,(qd m)[n]?=some x->wr.cell? ⟨b,j*1+n,none⟩=some x:=by
 obtain⟨e,u,t,C,A,r,z⟩:=h;intro n x d;have l:n<1:=(aB.1 d).1;refine r.cell _ ?_;rw[wJ q,KV];have f:=KQ (jb p (ms.take j));rw[aL (by rw[aE];omega),aE,f,t,<-u];rw[show j*1+n-(i*1+(j-i)*1)=n by omega,aV,aG l];exact d
theorem vR.skip(h:vR w wr b p ms R i j)(f:ms[j]?=some m)(q:p m=true)(l:Mod dt wr wr') :
  vR w wr' b p ms R i (j+1):=by
 obtain⟨d,x,u,C,A,t,r⟩:=h;have z:j<ms.length:=(aB.1 f).1;have e:jb p (ms.take (j+1))=jb p (ms.take j):=by rw[rq f,WD,aK q]
 refine⟨d++qd m,by rw[e];exact x,by rw[aE,u];simp[qd];omega,by omega,by omega,?_,r.trans (l.mono (λ_ _ e=>e.elim))⟩;rw[e];have:=t.mod l id;rw[wJ f,KV]at this;simpa[List.append_assoc]using this
theorem vR.keep(h:vR w wr b p ms R i j)(f:ms[j]?=some m)(z:p m=false)(l:Mod dt wr wr') :
  vR w (wr'.setCells b (i*1) (qd m)) b p ms R (i+1) (j+1):=by
 obtain⟨d,u,r,G,F,C,A⟩:=h;have E:j<ms.length:=(aB.1 f).1;have e:jb p (ms.take (j+1))=jb p (ms.take j)++[m]:=by rw[rq f,WD,aH (by simp[z])]
 have x:=KQ (jb p (ms.take j));have D:kc [m]=qd m:=by simp[kc]
 refine⟨d.drop 1++qd m,by rw[e,aE,<-u];rfl,by rw[aE,bT,r];simp[qd];omega,by omega,by omega,?_,(A.trans (l.mono (λ_ _ e=>e.elim))).trans (Mod.lK _ _ _)⟩;rw[e,yDq,D];have q:=C.mod l id;rw[wJ f,KV]at q;have:=dx.lK (g:=b) (t:=91) (qd m) wr' (kc (jb p (ms.take j))) (d.take 1) (d.drop 1++(qd m++kc (ms.drop (j+1))++R)) (by
  rw[ZS];exact q) (by rw[af,r];simp[qd];omega)
 rw[x,<-u]at this;simpa[List.append_assoc]using this
theorem vR.room(h:vR w wr b p ms R i j):i<j/\j<=ms.length/\Mod (eQ b) w wr /\
  (∀n,n<(j-i)*1->(wr.cell? ⟨b,i*1+n,none⟩).isSome=true)/\∀n,wr.frozen? ⟨b,n,none⟩=false:=by
 obtain⟨d,z,u,q,l,e,f⟩:=h;have r:=KQ (jb p (ms.take j));refine⟨q,l,f,λn t=>?_,λn=>e.frozen n⟩;obtain⟨x,hx⟩:∃x,(kc (jb p (ms.take j))++d++(kc (ms.drop j)++R))[i*1+n]?=some x:=⟨_,aA (by simp only[aE];omega)⟩;rw[show wr.cell? ⟨b,i*1+n,none⟩=some x from e.cell _ hx];rfl
theorem vR.done(h:vR w wr b p ms R i ms.length)(f:B<=b)(u:ms.length<=cap)(e:cap<=maxLen)(C:ms.length*1+R.length=cap*1) :
  (wr.setCells b (i*1) (AF (ms.length-i))).ownsRow B 91 1 (.slice (some ⟨b,0,none⟩) i cap) (jb p ms).length (kc (jb p ms))/\Mod (eQ b) w (wr.setCells b (i*1) (AF (ms.length-i))):=by
 obtain⟨d,q,G,F,E,l,z⟩:=h;rw[bQ]at q l;have r:=KQ (jb p ms);have D:=Zs (ms.length-i);have x:=z.trans (Mod.lK (AF (ms.length-i)) (i*1) wr);have A:kc (ms.drop ms.length)=[]:=by rw[cy];rfl
 rw[A,aa]at l;have hB:=dx.lK (g:=b) (t:=91) (AF (ms.length-i)) wr (kc (jb p ms)) d R l (by omega);rw[r,<-q]at hB;refine⟨⟨by omega,.inr ⟨b,cap,(kc (jb p ms)++AF (ms.length-i)++R).toArray,by rw[<-q],f,hB,by omega,e,?_,?_⟩⟩,x⟩
 .simp only[bE,aE];omega
 .rw[<-r,aV,db]
theorem yFx(f B:Nat)(M:Array Value)(p:Nat->Bool)(v:Value)(ms:List Nat)(w:World)(C:World->Prop)(r:w.ownsRow B 91 1 v ms.length (kc ms))(hA:nI f M (λd=>.pointer (some ⟨d,0,none⟩)) ms p C)(Y:C w)(Z:∀b,v.ownBlock=some b->∀u,Mod (eQ b) w u->C u)(hf:ms.length<=1000) :
  Calls Tryz.prog 85 #[v,.func (.func f) #[] M] w λe u=>∃I,e=.returned I/\u.ownsRow B 91 1 I (jb p ms).length (kc (jb p ms))/\I.ownBlock=v.ownBlock/\Mod (λx=>v.ownBlock=some x) w u:=by
 have D:=dk (zWe f w.heap.size M p v ms w C (Yv r) hA Y (by omega))
 cases q:ms.findIdx? p with
|none=>
  rw[q]at D;have HK:=dk (Yp p ms q);have HR:=dk r;obtain⟨a,cap,rfl⟩:=fU r;clear r hA;go_enter Tryz.func85,Tryz.ntmps85;go_wp2_with fail;refine D.out.mono ?_;rintro e w1⟨rfl,F⟩;simp only[jE];go_wp2_with fail;go_ret;exact⟨_,rfl,by rw[HK.out];exact gO HR.out F (λ_ _ _ _=>id),rfl,F.mono (λ_ _ e=>e.elim)⟩
|some k0=>
  rw[q]at D;obtain⟨ry,T⟩:=ZP p ms k0 q;obtain⟨_,h0⟩|⟨b,cap,cur,rfl,Gl,hg,hcap,hcm,hcs,htk⟩:=r.2
  .omega
  unfold maxLen at hcm;obtain⟨R,Ak⟩:∃R,cur.toList=kc ms++R:=by
   refine⟨cur.toList.drop (ms.length*1),?_⟩;rw[<-htk,ar]
  have W:=KQ ms;have U:dx w b (kc ms++R) 91:=by rw[dx,<-Ak];exact hg
  have lR:ms.length*1+R.length=cap*1:=by
   have:(kc ms++R).length=cap*1:=by rw[<-Ak];simpa using hcs
   rw[aE,W]at this;exact this
  have oy:=dk U;have Na:=dk T;have HA:=dk hA;have KB:=dk (Z b rfl);have hen:=hA.enter;clear U Ak hg hcs htk r T q W hA Y Z;go_enter Tryz.func85,Tryz.ntmps85;go_wp2_with fail;refine D.out.mono ?_;rintro e w1⟨rfl,F⟩;simp only[jE];have hne:((k0:Int)==-1)=false:=by rw[bp];omega
  go_wp2_with fail;go_loopw [5,6] (λx y wr=>∃i j:Nat,x=.int .i64 i/\y=.int .i64 j/\vR w wr b p ms R i j) (λ_ y _=>ms.length-(intOf y).toNat)
  case atStart=>exact⟨k0,k0+1,rfl,by go_num,vR.start ry Na.out oy.out F⟩
  case round=>
   obtain⟨i,j,rfl,rfl,t⟩:=hrel;obtain⟨hij,hjn,sV,h,l⟩:=t.room;by_cases O:j<ms.length
   .obtain⟨m,hm⟩:∃m,ms[j]?=some m:=⟨_,aA O⟩;have z:=t.look hm;have J:=z 0 _ rfl;simp only[bK,cq]at J;have UG:=KB.out wr sV;have HC:=dk (HA.out.ask m (aC hm) wr UG);have HI:=dk t;have V:=dk hm;have G:=dk h;have L:=dk l;have TW:True:=trivial;have P:b<wr.heap.size:=AC wr _ J;clear t hm z h l UG;go_wp2_with fail;refine HC.out.mono ?_;rintro e H⟨rfl,fA⟩;have E:Mod dt wr H:=fA;clear HC J
    cases X:p m with
   |true=>
     have Q:=dk (HI.out.skip V.out X E);go_wp2_with fail;go_roundw
     case rel=>exact⟨i,j+1,rfl,by go_num,Q.out⟩
     case measure=>simp[intOf];omega
   |false=>
     have Q:=dk (HI.out.keep V.out X E);have hex:∀c,c<1->∃y,H.cell? ⟨b,i*1+c,none⟩=some y:=λc hc=>by
      obtain⟨y,hy⟩:=bF.1 (G.out c (by omega));exact⟨y,E.cell hy id⟩
     have A:∀c,H.frozen? ⟨b,c,none⟩=false:=λc=>(E.frozen (p:=⟨b,c,none⟩) P id).trans (L.out c);obtain⟨y0,N⟩:=hex 0 (by omega);have f0:=A (i*1+0);simp only[bK,cq]at N f0;have sS:b≠wr.heap.size:=by omega
     clear hex A;go_wp2_with fail;go_roundw
     case rel=>exact⟨i+1,j+1,by go_num,by go_num,by simpa[World.setCells,qd,Nat.add_assoc]using Q.out⟩
     case measure=>simp[intOf];omega
   .obtain rfl:j=ms.length:=by omega
    have K:=t.done (B:=B) (cap:=cap) Gl hcap (by unfold maxLen;omega) lR;have hb3:¬cap=i:=by omega
    have hb4:i<=cap:=by omega
    simp only[cq]at K h;have S:=dk K;have G:Hid (∀n,n<(ms.length-i)*1->(wr.cell? ⟨b,i+n,none⟩).isSome=true):=λn hn=>h n (by omega);have L:Hid (∀n,n<(ms.length-i)*1->wr.frozen? ⟨b,i+n,none⟩=false):=λn _=>l _;clear K;clear t h l;go_wp2_with (first
    |(refine zXs rfl _ rfl b (i) (ms.length-i) _ rfl (by omega) G.out L.out ?_)
    |fail)
    go_ret;exact⟨_,rfl,S.out.1,rfl,S.out.2.mono (λx _ e=>by simp only[eQ]at e;rw[e];rfl)⟩
theorem zYa(g:Nat)(a:Option Addr)(c:Nat)(d:TypeId)(w:World):(Builtin.append_ #[99,99] d #[.slice (some ⟨g,0,none⟩) 0 0,.slice a 0 c]).run Tryz.prog w=.ok (.slice (some ⟨g,0,none⟩) 0 0) w:=by
 cases a <;> kernel_rfl
theorem Tryz.Ca:(Tryz.prog.info? 91).map (λi=>(i.zero,i.size,i.bytes))=some (some (.pointer none),1,8):=by kernel_rfl
theorem yIw(p:Addr)(m c:Nat)(l:List Nat)(w:World)(D:m=l.length)(E:∀(j:Nat) u,(kc l)[j]?=some u->w.cell? (p.add j)=some u)(N:l.length<=1000)(F:∀d∈l,∀u∈qd d,u.oneCell'=true) :
  Calls Tryz.prog 86 #[.slice (some p) m c] w λe C=>∃g cap,e=.returned (.slice (some ⟨g,0,none⟩) m cap)/\C.ownsRow w.heap.size 91 1 (.slice (some ⟨g,0,none⟩) m cap) m (kc l)/\Mod dt w C:=by
 obtain⟨I,J,t,r,h⟩:=A3 Tryz.Ca;have z:m<=maxLen:=by unfold maxLen;omega
 have A:m*8<=140737488355328:=by omega
 have G:Hid ((kc l).length=m*1):=by rw[D];exact KQ l
 have L:Hid (m=0\/∃q,some p=some q/\∀(j:Nat) u,(kc l)[j]?=some u->w.cell? (q.add j)=some u):=.inr ⟨p,rfl,E⟩;have H:=dk (yQa l F);have K:=run_eql_slice_nil (P:=Tryz.prog) w 99 91 (some p) m c 0 0 Tryz.underlying99;clear E D F;go_enter Tryz.func86,Tryz.ntmps86;go_wp2_with (first
 |(at_builtin;(refine zNb (w0:=w) rfl _ _ 99 rfl 91 I _ 1 8 Tryz.underlying99 J t r h rfl (by omega) zYa rfl (some p) m c (kc l) rfl G.out L.out H.out z A ?_))
 |fail)
 intro g cap M f x;go_wp2_with fail;go_ret;exact⟨g,cap,rfl,f,x⟩
def kZ(d:gB):List Value:=[.string d.key,.string d.val,.bool d.gone]
def iG(d:List gB):List Value:=d.flatMap kZ
theorem EX:∀e,(iG e).length=e.length*3
|[]=>rfl
|d::e=>by
  have f:=EX e;unfold iG at f⊢;rw[bN,aE,f];simp[kZ];omega
theorem Qz(a b:List gB):iG (a++b)=iG a++iG b:=by simp[iG]
theorem IX(d:gB)(b:List gB):iG (d::b)=kZ d++iG b:=by simp[iG]
theorem yPz(f:List gB)(l:∀d∈f,∀u∈kZ d,u.oneCell'=true):∀u∈iG f,u.oneCell'=true:=by
 intro u h;obtain⟨d,q,e⟩:=cV.1 h;exact l d q u e
theorem zYw:∀(os:List gB) (i:Nat) (o:gB),os[i]?=some o->∀j x,(kZ o)[j]?=some x->(iG os)[i*3+j]?=some x
|[],i,o,h,_,_,_=>by simp at h
|p::os,0,o,h,j,x,d=>by
  simp at h;subst h;have l:j<(kZ p).length:=(aB.1 d).1;rw[IX,cr,aY,aG l];exact d
|p::os,i+1,o,h,j,x,d=>by
  have e:=zYw os i o (by simpa using h) j x d;have f:(kZ p).length=3:=rfl;rw[IX,aL (by omega),f,show(i+1)*3+j-3=i*3+j by omega];exact e
theorem yDy{d:List gB}(h:w.ownsRow B 68 3 v d.length (iG d)):gD w w.heap.size 3 Fe v d:=by
 obtain⟨u,t⟩:=h;obtain⟨rfl,hn⟩|⟨g,cap,cur,rfl,q1,q2,q3,q4,q5,q6⟩:=t
 .have:d=[]:=aR hn;subst this;exact gD.nil _ _ _ _
 .have r:w.ownsRow B 68 3 (.slice (some ⟨g,0,none⟩) d.length cap) d.length (iG d):=⟨u,.inr ⟨g,cap,cur,rfl,q1,q2,q3,q4,q5,q6⟩⟩;have e:=r.cells (g:=g) rfl;have q:g<w.heap.size:=(aF.1 q2).1;refine⟨_,cap,rfl,q3,q4,.inr ⟨g,0,rfl,by omega,λi o l=>⟨kZ o,rfl,rfl,λj x f=>?_⟩⟩⟩;have:=e _ _ (zYw d i o l j x f);rw[A1,aY]at this;rw[aY];exact this
def yGp:Array Value:=#[.string ⟨#[]⟩,.string ⟨#[]⟩,.bool false]
def AG(n:Nat):List Value:=(Builtin.zeroCells yGp n).toList
theorem Zt(n:Nat):(AG n).length=n*3:=by rw[AG,cM,size_zeroCells];rfl
theorem yGn(n:Nat):∀v∈AG n,v.oneCell'=true:=by
 intro v d;simp only[AG,Builtin.zeroCells,dU,aj]at d;obtain⟨i,_,rfl⟩:=d;have f:∀j,j<3->(yGp[j]!).oneCell'=true:=by
  intro j e
  match j,e with
 |0,_=>rfl
 |1,_=>rfl
 |2,_=>rfl
 exact f _ (dP _ (by decide))
theorem yXk(w:World):(zeroValue 68).run Tryz.prog w=.ok (.agg #[.string ⟨#[]⟩,.string ⟨#[]⟩,.bool false]) w:=by kernel_rfl
theorem yHh(w:World)(f:TypeId)(b o n c:Nat)(r:0<n)(q:∀j,j<n*3->(w.cell? ⟨b,o+j,none⟩).isSome=true)(l:∀j,j<n*3->w.frozen? ⟨b,o+j,none⟩=false) :
  (Builtin.clear_ #[63] f #[.slice (some ⟨b,o,none⟩) n c]).run Tryz.prog w=.ok (.tuple #[]) (w.setCells b o (AG n)):=by
 have d:=B3 (P:=Tryz.prog) b o (AG n) 0 w (by simpa[Zt]using q) (by simpa[Zt]using l) (yGn n);simp only[bK]at d;obtain⟨m,rfl⟩:∃m,n=m+1:=⟨n-1,by omega⟩;have h:=yXk;have e:(Value.cells (.agg #[.string ⟨#[]⟩,.string ⟨#[]⟩,.bool false]))=yGp:=rfl;simp only[AG]at d⊢;simp[Builtin.clear_,run_underlying Tryz.underlying63,h,e,d]
theorem zXr{w:World}{e:Array Oper}{rest:List Oper}{Q:Exit->Act->World->Prop}(f:o.guard=none)(s:Operand)
  (r:o.op=.call {callee:=.builtin .clear,args:=#[s],argTypes:=#[63]}) (b d n c:Nat) (l:a.eval s=.slice (some ⟨b,d,none⟩) n c) (t:0<n)
  (x:∀j,j<n*3->(w.cell? ⟨b,d+j,none⟩).isSome=true) (u:∀j,j<n*3->w.frozen? ⟨b,d+j,none⟩=false)
  (h:wpList Tryz.prog e Q rest (a.put o.dst (.tuple #[])) (w.setCells b d (AG n))):wpList Tryz.prog e Q (o::rest) a w:=by
 refine A2 f λK z=>?_;have q:=yHh w o.type b d n c t x u;unfold Oper.wp execOp;simp only[r,resolve,invoke,builtin,Sem.run_bind,Sem.run_pure,Result.andThen_ok,cD,bZ,cO,l,q];exact z _ _ h
def vS(w wr:World)(b:Nat)(p:gB->Bool)(ms:List gB)(R:List Value)(i j:Nat):Prop:=
 ∃d:List Value,i=(jb p (ms.take j)).length/\d.length=(j-i)*3/\i<j/\j<=ms.length /\
  dx wr b (iG (jb p (ms.take j))++d++(iG (ms.drop j)++R)) 68/\Mod (eQ b) w wr
theorem vS.start{p:gB->Bool}{ms:List gB}(l:k0<ms.length)(d:jb p (ms.take (k0+1))=ms.take k0)(hB:dx w b (iG ms++R) 68)(f:Mod dt w wr):vS w wr b p ms R k0 (k0+1):=by
 obtain⟨m,hm0⟩:∃m,ms[k0]?=some m:=⟨_,aA l⟩;have h:ms=ms.take k0++m::ms.drop (k0+1):=by
  rw[<-wJ hm0,ar]
 refine⟨kZ m,by rw[d,af];omega,by simp[kZ],by omega,by omega,?_,f.mono (λ_ _ e=>e.elim)⟩;rw[d];have:=hB.mod f id;have e:iG ms=iG (ms.take k0)++(kZ m++iG (ms.drop (k0+1))):=by
  conv=>lhs;rw[h]
  rw[Qz,IX]
 rw[e]at this;simpa[List.append_assoc]using this
theorem vS.look{p:gB->Bool}{ms:List gB}(h:vS w wr b p ms R i j){m:gB}(q:ms[j]?=some m) :
  ∀n x,(kZ m)[n]?=some x->wr.cell? ⟨b,j*3+n,none⟩=some x:=by
 obtain⟨e,u,t,C,A,r,z⟩:=h;intro n x d;have l:n<3:=(aB.1 d).1;refine r.cell _ ?_;rw[wJ q,IX];have f:=EX (jb p (ms.take j));rw[aL (by rw[aE];omega),aE,f,t,<-u];rw[show j*3+n-(i*3+(j-i)*3)=n by omega,aV,aG l];exact d
theorem vS.skip{p:gB->Bool}{ms:List gB}(h:vS w wr b p ms R i j){m:gB}(f:ms[j]?=some m)(q:p m=true)(l:Mod dt wr wr') :
  vS w wr' b p ms R i (j+1):=by
 obtain⟨d,x,u,C,A,t,r⟩:=h;have z:j<ms.length:=(aB.1 f).1;have e:jb p (ms.take (j+1))=jb p (ms.take j):=by rw[rq f,WD,aK q]
 refine⟨d++kZ m,by rw[e];exact x,by rw[aE,u];simp[kZ];omega,by omega,by omega,?_,r.trans (l.mono (λ_ _ e=>e.elim))⟩;rw[e];have:=t.mod l id;rw[wJ f,IX]at this;simpa[List.append_assoc]using this
theorem vS.keep{p:gB->Bool}{ms:List gB}(h:vS w wr b p ms R i j){m:gB}(f:ms[j]?=some m)(z:p m=false)(l:Mod dt wr wr') :
  vS w (wr'.setCells b (i*3) (kZ m)) b p ms R (i+1) (j+1):=by
 obtain⟨d,u,r,G,F,C,A⟩:=h;have E:j<ms.length:=(aB.1 f).1;have e:jb p (ms.take (j+1))=jb p (ms.take j)++[m]:=by rw[rq f,WD,aH (by simp[z])]
 have x:=EX (jb p (ms.take j));have D:iG [m]=kZ m:=by simp[iG]
 refine⟨d.drop 3++kZ m,by rw[e,aE,<-u];rfl,by rw[aE,bT,r];simp[kZ];omega,by omega,by omega,?_,(A.trans (l.mono (λ_ _ e=>e.elim))).trans (Mod.lK _ _ _)⟩;rw[e,Qz,D];have q:=C.mod l id;rw[wJ f,IX]at q;have:=dx.lK (g:=b) (t:=68) (kZ m) wr' (iG (jb p (ms.take j))) (d.take 3) (d.drop 3++(kZ m++iG (ms.drop (j+1))++R)) (by
  rw[ZS];exact q) (by rw[af,r];simp[kZ];omega)
 rw[x,<-u]at this;simpa[List.append_assoc]using this
theorem vS.room{p:gB->Bool}{ms:List gB}(h:vS w wr b p ms R i j):i<j/\j<=ms.length/\Mod (eQ b) w wr /\
  (∀n,n<(j-i)*3->(wr.cell? ⟨b,i*3+n,none⟩).isSome=true)/\∀n,wr.frozen? ⟨b,n,none⟩=false:=by
 obtain⟨d,z,u,q,l,e,f⟩:=h;have r:=EX (jb p (ms.take j));refine⟨q,l,f,λn t=>?_,λn=>e.frozen n⟩;obtain⟨x,hx⟩:∃x,(iG (jb p (ms.take j))++d++(iG (ms.drop j)++R))[i*3+n]?=some x:=⟨_,aA (by simp only[aE];omega)⟩;rw[show wr.cell? ⟨b,i*3+n,none⟩=some x from e.cell _ hx];rfl
theorem vS.done{p:gB->Bool}{ms:List gB}(h:vS w wr b p ms R i ms.length)(f:B<=b)(u:ms.length<=cap)(e:cap<=maxLen)(C:ms.length*3+R.length=cap*3) :
  (wr.setCells b (i*3) (AG (ms.length-i))).ownsRow B 68 3 (.slice (some ⟨b,0,none⟩) i cap) (jb p ms).length (iG (jb p ms))/\Mod (eQ b) w (wr.setCells b (i*3) (AG (ms.length-i))):=by
 obtain⟨d,q,G,F,E,l,z⟩:=h;rw[bQ]at q l;have r:=EX (jb p ms);have D:=Zt (ms.length-i);have x:=z.trans (Mod.lK (AG (ms.length-i)) (i*3) wr);have A:iG (ms.drop ms.length)=[]:=by rw[cy];rfl
 rw[A,aa]at l;have hB:=dx.lK (g:=b) (t:=68) (AG (ms.length-i)) wr (iG (jb p ms)) d R l (by omega);rw[r,<-q]at hB;refine⟨⟨by omega,.inr ⟨b,cap,(iG (jb p ms)++AG (ms.length-i)++R).toArray,by rw[<-q],f,hB,by omega,e,?_,?_⟩⟩,x⟩
 .simp only[bE,aE];omega
 .rw[<-r,aV,db]
theorem yFw(f B:Nat)(M:Array Value)(p:gB->Bool)(v:Value)(ms:List gB)(w:World)(C:World->Prop)(u:w.ownsRow B 68 3 v ms.length (iG ms))(hA:nI f M (λd=>.agg #[.string d.key,.string d.val,.bool d.gone]) ms p C)(Z:C w)(UI:∀b,v.ownBlock=some b->∀A,Mod (eQ b) w A->C A)(hf:ms.length<=1000) :
  Calls Tryz.prog 162 #[v,.func (.func f) #[] M] w λe A=>∃J,e=.returned J/\A.ownsRow B 68 3 J (jb p ms).length (iG (jb p ms))/\J.ownBlock=v.ownBlock/\Mod (λx=>v.ownBlock=some x) w A:=by
 have D:=dk (zWd f w.heap.size M p v ms w C (yDy u) hA Z (by omega))
 cases q:ms.findIdx? p with
|none=>
  rw[q]at D;have HK:=dk (Yp p ms q);have HR:=dk u;obtain⟨a,cap,rfl⟩:=fU u;clear u hA;go_enter Tryz.func162,Tryz.ntmps162;go_wp2_with fail;refine D.out.mono ?_;rintro e w1⟨rfl,F⟩;simp only[jE];go_wp2_with fail;go_ret;exact⟨_,rfl,by rw[HK.out];exact gO HR.out F (λ_ _ _ _=>id),rfl,F.mono (λ_ _ e=>e.elim)⟩
|some k0=>
  rw[q]at D;obtain⟨ry,T⟩:=ZP p ms k0 q;obtain⟨_,h0⟩|⟨b,cap,cur,rfl,Gl,hg,hcap,hcm,hcs,htk⟩:=u.2
  .omega
  unfold maxLen at hcm;obtain⟨R,Ak⟩:∃R,cur.toList=iG ms++R:=by
   refine⟨cur.toList.drop (ms.length*3),?_⟩;rw[<-htk,ar]
  have X:=EX ms;have V:dx w b (iG ms++R) 68:=by rw[dx,<-Ak];exact hg
  have lR:ms.length*3+R.length=cap*3:=by
   have:(iG ms++R).length=cap*3:=by rw[<-Ak];simpa using hcs
   rw[aE,X]at this;exact this
  have oy:=dk V;have Na:=dk T;have HA:=dk hA;have KB:=dk (UI b rfl);have hen:=hA.enter;clear V Ak hg hcs htk u T q X hA Z UI;go_enter Tryz.func162,Tryz.ntmps162;go_wp2_with fail;refine D.out.mono ?_;rintro e w1⟨rfl,F⟩;simp only[jE];have hne:((k0:Int)==-1)=false:=by rw[bp];omega
  go_wp2_with fail;go_loopw [5,6] (λx y wr=>∃i j:Nat,x=.int .i64 i/\y=.int .i64 j/\vS w wr b p ms R i j) (λ_ y _=>ms.length-(intOf y).toNat)
  case atStart=>exact⟨k0,k0+1,rfl,by go_num,vS.start ry Na.out oy.out F⟩
  case round=>
   obtain⟨i,j,rfl,rfl,z⟩:=hrel;obtain⟨hij,hjn,sV,h,l⟩:=z.room;by_cases O:j<ms.length
   .obtain⟨m,hm⟩:∃m,ms[j]?=some m:=⟨_,aA O⟩;have r:=z.look hm;have K:=r 0 _ rfl;have q1:=r 1 _ rfl;have q2:=r 2 _ rfl;simp only[bK]at K;have UG:=KB.out wr sV;have HC:=dk (HA.out.ask m (aC hm) (wr.alloc (.cells #[.string m.key,.string m.val,.bool m.gone] 68)) (HA.out.keep _ _ UG ((Mod.refl dt wr).alloc _)));have HI:=dk z;have W:=dk hm;have G:=dk h;have L:=dk l;have gM:=dx.new wr (kZ m) 68;have P:b<wr.heap.size:=AC wr _ K;clear z hm r h l UG;go_wp2_with fail;refine HC.out.mono ?_;rintro e I⟨rfl,fA⟩;have H:dx I wr.heap.size (kZ m) 68:=gM.mod fA id;have E:=((Mod.refl dt wr).alloc (.cells #[.string m.key,.string m.val,.bool m.gone] 68)).trans fA;clear HC K q1 q2 gM;have p0:=H.cell 0 rfl;have p1:=H.cell 1 rfl;have p2:=H.cell 2 rfl
    cases Y:p m with
   |true=>
     have Q:=dk (HI.out.skip W.out Y E);go_wp2_with fail;go_roundw
     case rel=>exact⟨i,j+1,rfl,by go_num,Q.out⟩
     case measure=>simp[intOf];omega
   |false=>
     have Q:=dk (HI.out.keep W.out Y E);have hex:∀c,c<3->∃y,I.cell? ⟨b,i*3+c,none⟩=some y:=λc hc=>by
      obtain⟨y,hy⟩:=bF.1 (G.out c (by omega));exact⟨y,E.cell hy id⟩
     have t:∀c,I.frozen? ⟨b,c,none⟩=false:=λc=>(E.frozen (p:=⟨b,c,none⟩) P id).trans (L.out c);obtain⟨y0,N⟩:=hex 0 (by omega);obtain⟨y1,hy1⟩:=hex 1 (by omega);obtain⟨y2,hy2⟩:=hex 2 (by omega);have f0:=t (i*3+0);have f1:=t (i*3+1);have f2:=t (i*3+2);simp only[bK]at N f0;have sS:b≠wr.heap.size:=by omega
     clear hex t;go_wp2_with fail;go_roundw
     case rel=>exact⟨i+1,j+1,by go_num,by go_num,by simpa[World.setCells,kZ,Nat.add_assoc]using Q.out⟩
     case measure=>simp[intOf];omega
   .obtain rfl:j=ms.length:=by omega
    have U:=z.done (B:=B) (cap:=cap) Gl hcap (by unfold maxLen;omega) lR;have hb3:¬cap=i:=by omega
    have hb4:i<=cap:=by omega
    have S:=dk U;have G:Hid (∀n,n<(ms.length-i)*3->(wr.cell? ⟨b,i*3+n,none⟩).isSome=true):=λn hn=>h n (by omega);have L:Hid (∀n,n<(ms.length-i)*3->wr.frozen? ⟨b,i*3+n,none⟩=false):=λn _=>l _;clear U;clear z h l;go_wp2_with (first
    |(refine zXr rfl _ rfl b (i*3) (ms.length-i) _ rfl (by omega) G.out L.out ?_)
    |fail)
    go_ret;exact⟨_,rfl,S.out.1,rfl,S.out.2.mono (λx _ e=>by simp only[eQ]at e;rw[e];rfl)⟩
theorem zXz(g:Nat)(a:Option Addr)(c:Nat)(d:TypeId)(w:World):(Builtin.append_ #[63,63] d #[.slice (some ⟨g,0,none⟩) 0 0,.slice a 0 c]).run Tryz.prog w=.ok (.slice (some ⟨g,0,none⟩) 0 0) w:=by
 cases a <;> kernel_rfl
theorem Tryz.CZ:(Tryz.prog.info? 68).map (λi=>(i.zero,i.size,i.bytes))=some (some (.agg #[.string ⟨#[]⟩,.string ⟨#[]⟩,.bool false]),3,40):=by kernel_rfl
theorem yIv(p:Addr)(m c:Nat)(l:List gB)(w:World)(D:m=l.length)(E:∀(j:Nat) u,(iG l)[j]?=some u->w.cell? (p.add j)=some u)(N:l.length<=1000)(F:∀d∈l,∀u∈kZ d,u.oneCell'=true) :
  Calls Tryz.prog 163 #[.slice (some p) m c] w λe C=>∃g cap,e=.returned (.slice (some ⟨g,0,none⟩) m cap)/\C.ownsRow w.heap.size 68 3 (.slice (some ⟨g,0,none⟩) m cap) m (iG l)/\Mod dt w C:=by
 obtain⟨I,J,t,r,h⟩:=A3 Tryz.CZ;have z:m<=maxLen:=by unfold maxLen;omega
 have A:m*40<=140737488355328:=by omega
 have G:Hid ((iG l).length=m*3):=by rw[D];exact EX l
 have L:Hid (m=0\/∃q,some p=some q/\∀(j:Nat) u,(iG l)[j]?=some u->w.cell? (q.add j)=some u):=.inr ⟨p,rfl,E⟩;have H:=dk (yPz l F);have K:=run_eql_slice_nil (P:=Tryz.prog) w 63 68 (some p) m c 0 0 Tryz.underlying63;clear E D F;go_enter Tryz.func163,Tryz.ntmps163;go_wp2_with (first
 |(at_builtin;(refine zNb (w0:=w) rfl _ _ 63 rfl 68 I _ 3 40 Tryz.underlying63 J t r h rfl (by omega) zXz rfl (some p) m c (iG l) rfl G.out L.out H.out z A ?_))
 |fail)
 intro g cap M f x;go_wp2_with fail;go_ret;exact⟨g,cap,rfl,f,x⟩
theorem yIu(w:World):Calls Tryz.prog 163 #[.slice none 0 0] w λe d=>e=.returned (.slice none 0 0)/\d=w:=by
 have f:=run_eql_slice_nil (P:=Tryz.prog) w 63 68 none 0 0 0 0 Tryz.underlying63;go_enter Tryz.func163,Tryz.ntmps163;go_wp2_with fail;go_ret;exact⟨rfl,rfl⟩
theorem yv{f:TypeId}{bs:List Nat}(h:w.ownsRow B f 1 v bs.length (bs.map jd))(d:bs[k]?=some b) :
  ∃g cap,v=.slice (some ⟨g,0,none⟩) bs.length cap/\w.cell? ⟨g,k,none⟩=some (.pointer (some ⟨b,0,none⟩)):=by
 have l:k<bs.length:=(aB.1 d).1;obtain⟨e,h0⟩|⟨g,cap,cur,e,q1,q2,q3,q4,q5,q6⟩:=h.2
 .omega
 .subst e;have:=h.cells (g:=g) rfl k (jd b) (by simp[d]);rw[A1,aY]at this;exact⟨g,cap,rfl,this⟩
theorem kX{lost:Int}{t:TypeId}(h:dx w g (OJ y lost) t) :
  w.cell? ⟨g,0,none⟩=some y.lv/\w.cell? ⟨g,1,none⟩=some (.map (some y.dr))/\w.cell? ⟨g,2,none⟩=some y.wv/\w.cell? ⟨g,3,none⟩=some (.int .i64 lost)/\w.cell? ⟨g,4,none⟩=some (.map y.mr)/\w.cell? ⟨g,5,none⟩=some (.map y.q.m)/\w.cell? ⟨g,6,none⟩=some y.tv:=
 ⟨h.cell 0 rfl,h.cell 1 rfl,h.cell 2 rfl,h.cell 3 rfl,h.cell 4 rfl,h.cell 5 rfl,h.cell 6 rfl⟩
theorem eJ.nQ(h:eJ w n c g y s)(d:k<s.lines.length):∃b,y.gd[k]?=some b/\Bz w n y b (s.A k):=by
 have e:=h.ir;refine⟨y.gd[k]'(by omega),aA (by omega),h.A k _ _ (aA (by omega)) ?_⟩;unfold dp.A;rw[aI,aA d];rfl
theorem eJ.AN(h:eJ w n c g y s){id:Nat}(f:1<=id)(e:id<=s.U.length):∃b,y.kP[id-1]?=some b/\vG w n y b (s.I id):=by
 have d:=h.lJ;refine⟨y.kP[id-1]'(by omega),aA (by omega),h.I (id-1) _ _ (aA (by omega)) ?_⟩;unfold dp.I;rw[aI,aA (by omega)];rfl
theorem Bz.zF{l:jS}(h:Bz w n y b l)(d:j<l.nodes.length):∃c,(y.fu b)[j]?=some c/\∃s,l.nodes[j]?=some s/\zj w n y c s:=by
 have e:=h.len;exact⟨(y.fu b)[j]'(by omega),aA (by omega),l.nodes[j],aA d,h.node j _ _ (aA (by omega)) (aA d)⟩
theorem zMq(n c g:Nat)(y:dq)(s:dp)(w:World)(h:eJ w n c g y s)(u:s.lines.length<=1000)(t:1<=s.lines.length) :
  Calls Tryz.prog 109 #[.pointer (some ⟨g,0,none⟩)] w λe l=>e=.returned (.int .i64 (dz s))/\l=w:=by
 obtain⟨q,-⟩:=kX h.Z;obtain⟨a,cap,d⟩:=fU h.gN;rw[d,h.ir]at q;have f:((s.lines.length:Int)-1)=(dz s:Nat):=by unfold dz;omega
 have r:=dk f;clear h d f;go_enter Tryz.func109,Tryz.ntmps109;go_wp2_with fail;go_ret;exact⟨by rw[<-r.out];rfl,rfl⟩
theorem BQ(n c g:Nat)(y:dq)(s:dp)(id b:Nat)(w:World)(h:eJ w n c g y s)(C:1<=id)(A:id<=1000)(d:y.kP[id-1]?=some b) :
  Calls Tryz.prog 34 #[.pointer (some ⟨g,0,none⟩),.int .i64 id] w λe l=>e=.returned (.pointer (some ⟨b,0,none⟩))/\l=w:=by
 obtain⟨-,-,-,-,-,-,u⟩:=kX h.Z;obtain⟨x,cap,f,t⟩:=yv h.iC d;rw[f]at u;obtain⟨i,rfl⟩:∃i,id=i+1:=⟨id-1,by omega⟩;have q:i<y.kP.length:=by have:=(aB.1 d).1;omega
 rw[bL]at t;have z:(i:Int)<(y.kP.length:Int):=by omega
 have r:(0:Int)<=(i:Int):=by omega
 clear h f d;go_enter Tryz.func34,Tryz.ntmps34;go_wp2_with fail;go_ret;exact⟨rfl,rfl⟩
theorem KT(n c g:Nat)(y:dq)(s:dp)(id:Int)(w:World)(h:eJ w n c g y s)(D:s.U.length<=60) :
  Calls Tryz.prog 11 #[.pointer (some ⟨g,0,none⟩),.int .i64 id] w λe u=>e=.returned (.int .i64 (iB s id))/\u=w:=by
 obtain⟨-,-,-,-,-,-,z⟩:=kX h.Z;obtain⟨a,cap,f⟩:=fU h.iC;rw[f,h.lJ]at z;by_cases t:id<1
 .have x:decide (id<1)=true:=aQ t;have d:Hid (iB s id=0):=by unfold Hid iB uU;rw[aN (show ¬1<=id by omega)];rfl
  clear h f;go_enter Tryz.func11,Tryz.ntmps11;go_wp2_with fail;go_ret;exact⟨by rw[d.out];rfl,rfl⟩
 .have x:decide (id<1)=false:=aN t;by_cases r:id > (s.U.length:Int)
  .have l:decide (id > (s.U.length:Int))=true:=aQ r;have d:Hid (iB s id=0):=by unfold Hid iB uU;rw[aN (show ¬id<=(s.U.length:Int) by omega),Bool.and_false];rfl
   clear h f;go_enter Tryz.func11,Tryz.ntmps11;go_wp2_with fail;go_ret;exact⟨by rw[d.out];rfl,rfl⟩
  .have l:decide (id > (s.U.length:Int))=false:=aN r;obtain⟨i,rfl⟩:∃i:Nat,id=i:=⟨id.toNat,by omega⟩;obtain⟨b,q,ht⟩:=h.AN (id:=i) (by omega) (by omega);have A:=dk (BQ n c g y s i b w h (by omega) (by omega) q);have C:=ht.Z.cell 0 rfl;have d:Hid (iB s i=(s.I i).state):=by
    unfold Hid iB uU;rw[aQ (show(1:Int)<=(i:Int) by omega),aQ (show(i:Int)<=(s.U.length:Int) by omega)];rfl
   clear h f ht q;go_enter Tryz.func11,Tryz.ntmps11;go_wp2_with fail;refine A.out.mono ?_;rintro e w1⟨rfl,rfl⟩;go_wp2_with fail;go_ret;exact⟨by rw[d.out];rfl,rfl⟩
theorem pM:jP 0=.nilIface:=by unfold jP;rw[aK rfl]
theorem nL{e:Int}(h:e≠0):jP e=.iface 90 (.int .i64 e):=by unfold jP;rw[aH h]
theorem Yn(n c g:Nat)(y:dq)(s:dp)(id:Int)(w:World)(h:eJ w n c g y s)(r:s.U.length<=60) :
  Calls Tryz.prog 35 #[.pointer (some ⟨g,0,none⟩),.int .i64 id] w λe l=>e=.returned (jP (oC s id))/\l=w:=by
 have t:=dk (KT n c g y s id w h r);have q:=Nw;clear h;go_enter Tryz.func35,Tryz.ntmps35;go_wp2_with fail;refine t.out.mono ?_;rintro e w1⟨rfl,rfl⟩;by_cases h0:iB s id=0
 .rw[h0];have d:Hid (jP (oC s id)=.iface 90 (.int .i64 7)):=by unfold Hid oC;rw[aK h0];exact nL (by omega)
  go_wp2_with fail;go_ret;exact⟨by rw[d.out];rfl,rfl⟩
 .by_cases f:iB s id=1
  .rw[f];have d:Hid (jP (oC s id)=.nilIface):=by unfold Hid oC;rw[aH h0,aK f];exact pM
   go_wp2_with fail;go_ret;exact⟨by rw[d.out];rfl,rfl⟩
  .have d:Hid (jP (oC s id)=.iface 90 (.int .i64 6)):=by unfold Hid oC;rw[aH h0,aH f];exact nL (by omega)
   have x:(iB s id==0)=false:=by simpa using h0
   have u:(iB s id==1)=false:=by simpa using f
   go_wp2_with fail;go_ret;exact⟨by rw[d.out];rfl,rfl⟩
theorem yEm(n c g:Nat)(y:dq)(s:dp)(b:Nat)(ns:ec)(w:World)(h:eJ w n c g y s)(l:zj w n y b ns) :
  Calls Tryz.prog 84 #[.pointer (some ⟨g,0,none⟩),.pointer (some ⟨b,0,none⟩)] w λe f=>e=.returned (.bool (gQ s ns))/\Mod dt w f:=by
 obtain⟨-,I,-⟩:=kX h.Z;have E:=h.Z.lt;have u:=l.ints.1;have r:=h.dead;have H:(Instr.lookup 75 (.map (some y.dr)) (.int .i64 ns.id) true).run Tryz.prog w.drew=.ok (.tuple #[.agg #[],.bool (decide (ns.id∈s.dead))]) w.drew:=KW (r.mod ((Mod.refl dt w).drew) (λ_ _=>id)) u;have G:(Instr.lookup 75 (.map (some y.dr)) (.int .i64 ns.id) true).run Tryz.prog (w.alloc (.cells #[] 158)).drew=.ok (.tuple #[.agg #[],.bool (decide (ns.id∈s.dead))]) (w.alloc (.cells #[] 158)).drew:=KW (r.mod (((Mod.refl dt w).alloc _).drew) (λ_ _=>id)) u;have z:Hid (∀d,Mod dt w d->Calls Tryz.prog 98 #[.pointer (some ⟨b,0,none⟩)] d λe f=>e=.returned (.int .i64 ns.id)/\f=d):=λd A=>yIx _ _ _ _ _ _ (l.quiet A);have x:gQ s ns=!decide (ns.id∈s.dead):=rfl;have D:=dk x;clear h l r x;go_enter Tryz.func84,Tryz.ntmps84;go_upto_region 1 with fail;go_cut [6] (λt wc=>t=.bool (decide (ns.id∈s.dead))/\Mod dt w wc)
 case first=>
  go_region_with (go_at_call 98;(first
  |(refine(z.out _ ((Mod.refl dt w).drew)).mono ?_)
  |(refine(z.out _ (((Mod.refl dt w).alloc _).drew)).mono ?_));rintro e F⟨rfl,rfl⟩)
  all_goals
   go_wp2_with fail;go_meet
   case rel=>exact⟨rfl,((Mod.refl dt w).alloc _).drew⟩
 case rest=>
  obtain⟨rfl,C⟩:=hcut
  cases q:decide (ns.id∈s.dead)
  all_goals
   go_wp2_with fail;go_ret;exact⟨by rw[D.out,q];rfl,C⟩
