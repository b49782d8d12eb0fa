import Derived.Test.YtmaiggbnceejiaaGreatDoorS15
import Derived.StillTailTactics
import Derived.Test.YtmaiggbnceejiaaGreatDoorS01
import Derived.RegionTactic
import Derived.Orders
set_option linter.unusedVariables false
set_option maxRecDepth 100000
set_option maxHeartbeats 16000000
namespace Go.Proofs.YtmaiggbnceejiaaGreatDoor
open Go.RowKit Go.Extern.Stop Go.Stop Go.Extern Go.Lib Go.Maps
theorem JJ(e:Int)(t:Addr)(old:Value)(w:World)(hg:w.cell? ⟨1,0,none⟩=some (.iface 236 (.agg #[.pointer (some ⟨2,40,none⟩)])))(ht0:w.cell? t=some old)(SP:w.frozen? t=false) :
  Calls Tryz.prog 115 #[.iface 90 (.int .i64 e),.iface 177 (.pointer (some t))] w fun ev w'=>ev=.returned (.bool true)/\w'=((((w.alloc (.cells #[.pointer (some t)] 177)).alloc (.cells #[.pointer (some ⟨2,177,none⟩),.pointer (some ⟨w.heap.size,0,none⟩),.int .u64 150] 213)).alloc (.cells #[.pointer (some ⟨2,177,none⟩),.pointer (some ⟨w.heap.size,0,none⟩),.int .u64 150] 213)).alloc (.cells #[.int .i64 e] 90)).setCell t (.int .i64 e):=by
 have h6:=@run_callFunc_extern Tryz.prog 153 _ (fun args=>ReflectliteValue.unpack (args.getD 0 (.tuple #[]))) Tryz.func153 (by kernel_rfl) (by kernel_rfl) (by kernel_rfl) (by kernel_rfl)
 have h7 := @run_callFunc_extern Tryz.prog 154 _ (ReflectliteValue.methodAny (ReflectliteValue.valueError "reflectlite.Value.Type" 0) (fun t _ _ _ => ReflectliteType.toType t)) Tryz.func154 (by kernel_rfl) (by kernel_rfl) (by kernel_rfl) (by kernel_rfl)
 have h8 := @run_callFunc_extern Tryz.prog 155 _ (ReflectliteValue.method (ReflectliteValue.valueError "reflectlite.Value.IsNil" 0) ReflectliteValue.isNil) Tryz.func155 (by kernel_rfl) (by kernel_rfl) (by kernel_rfl) (by kernel_rfl)
 have h27:=@run_callFunc_extern Tryz.prog 215 _ (ReflectliteType.abiMethod fun t=>do pure (.int .u8 (<-Rtype.kind t))) Tryz.func215 (by kernel_rfl) (by kernel_rfl) (by kernel_rfl) (by kernel_rfl);have h37:=@run_callFunc_extern Tryz.prog 226 _ (ReflectliteType.method ReflectliteType.elem) Tryz.func226 (by kernel_rfl) (by kernel_rfl) (by kernel_rfl) (by kernel_rfl)
 have h38 := @run_callFunc_extern Tryz.prog 227 _ (ReflectliteType.relation "Implements" ReflectliteType.implements_) Tryz.func227 (by kernel_rfl) (by kernel_rfl) (by kernel_rfl) (by kernel_rfl)
 have h10:=@run_callFunc_extern Tryz.prog 174 _ ReflectliteType.typeOf Tryz.func174 (by kernel_rfl) (by kernel_rfl) (by kernel_rfl) (by kernel_rfl)
 have h35 := @run_callFunc_extern Tryz.prog 224 _ (ReflectliteType.relation "AssignableTo" ReflectliteType.assignableTo) Tryz.func224 (by kernel_rfl) (by kernel_rfl) (by kernel_rfl) (by kernel_rfl)
 have h11 := @run_callFunc_extern Tryz.prog 175 _ (ReflectliteValue.method (ReflectliteValue.valueError "reflectlite.Value.Elem" 0) ReflectliteValue.elem) Tryz.func175 (by kernel_rfl) (by kernel_rfl) (by kernel_rfl) (by kernel_rfl)
 have h12:=@run_callFunc_extern Tryz.prog 176 _ ReflectliteValue.set Tryz.func176 (by kernel_rfl) (by kernel_rfl) (by kernel_rfl) (by kernel_rfl);have tO:=Tryz.Ct;have mA:=Tryz.mg;have a25:=Tryz.te;have v25:=Tryz.zi;have f6:=Tryz.zh;have f7:=Tryz.Mp;have mK:=Tryz.vA;have mE:=Tryz.vB;have mI:=Tryz.oI;have k27:=Tryz.NN;have k25:=Tryz.NO;have e27:=Tryz.PU;have i25:=Tryz.sv;have n8:=Tryz.Hg ⟨w.heap.size,0,none⟩ t ((w.alloc (.cells #[.pointer (some t)] 177)).alloc (.cells #[.pointer (some ⟨2,177,none⟩),.pointer (some ⟨w.heap.size,0,none⟩),.int .u64 150] 213)) (by simp);have hlt:1<w.heap.size:=World.block_lt_of_cell? w _ hg;have hg2:((w.alloc (.cells #[.pointer (some t)] 177)).alloc (.cells #[.pointer (some ⟨2,177,none⟩),.pointer (some ⟨w.heap.size,0,none⟩),.int .u64 150] 213)).cell? ⟨1,0,none⟩=some (.iface 236 (.agg #[.pointer (some ⟨2,40,none⟩)])):=by
  rw [World.cell?_alloc_lt _ _ ⟨1,0,none⟩ (by simp;omega),World.cell?_alloc_lt _ _ ⟨1,0,none⟩ hlt];exact hg
 have htl:t.block<w.heap.size:=by
  rcases dN t.block w.heap.size with h | h
  ·exact h
  ·simp [World.cell?,Array.getElem?_eq_none h] at ht0
 have el:=Tryz.JD ⟨w.heap.size,0,none⟩ t (((w.alloc (.cells #[.pointer (some t)] 177)).alloc (.cells #[.pointer (some ⟨2,177,none⟩),.pointer (some ⟨w.heap.size,0,none⟩),.int .u64 150] 213)).alloc (.cells #[.pointer (some ⟨2,177,none⟩),.pointer (some ⟨w.heap.size,0,none⟩),.int .u64 150] 213)) (by rw [World.cell?_alloc_lt _ _ ⟨w.heap.size,0,none⟩ (by simp;omega)];simp);have st:=Tryz.WL t ⟨w.heap.size+1+1+1,0,none⟩ e old ((((w.alloc (.cells #[.pointer (some t)] 177)).alloc (.cells #[.pointer (some ⟨2,177,none⟩),.pointer (some ⟨w.heap.size,0,none⟩),.int .u64 150] 213)).alloc (.cells #[.pointer (some ⟨2,177,none⟩),.pointer (some ⟨w.heap.size,0,none⟩),.int .u64 150] 213)).alloc (.cells #[.int .i64 e] 90))
  (by rw [World.cell?_alloc_at _ _ _ _ (by simp)];rfl)
  (by rw [World.cell?_alloc_lt _ _ t (by simp;omega),World.cell?_alloc_lt _ _ t (by simp;omega),World.cell?_alloc_lt _ _ t (by simp;omega),World.cell?_alloc_lt _ _ t htl];exact ht0)
  (by rw [World.frozen?_alloc_old _ _ t (by simp;omega),World.frozen?_alloc_old _ _ t (by simp;omega),World.frozen?_alloc_old _ _ t (by simp;omega),World.frozen?_alloc_old _ _ t (Nat.ne_of_lt htl)];exact SP)
 go_enter Tryz.func115,Tryz.ntmps115
 go_wp2
 refine wp_loop_rounds 1 ?_;rw [rounds_succ]
 go_wp2
 go_ret;exact ⟨rfl,rfl⟩
def ET(w:World):Prop:=w.cell? ⟨1,0,none⟩=some (.iface 236 (.agg #[.pointer (some ⟨2,40,none⟩)]))
theorem ET.mod{w w':World}(h:ET w)(hm:Mod dZ w w'):ET w':=hm.cell h id
theorem yQy(w:World):Calls Tryz.prog 67 #[.nilIface] w fun e w'=>e=.returned (.int .i64 0)/\w'=w:=by
 go_enter Tryz.func67,Tryz.ntmps67;go_wp2_with fail;go_ret;exact ⟨rfl,rfl⟩
theorem yJi(e:Int)(w:World)(h:ET w):Calls Tryz.prog 67 #[.iface 90 (.int .i64 e)] w fun ev w'=>ev=.returned (.int .i64 e)/\Mod dZ w w':=by
 have hg1:(w.alloc (.cells #[.int .i64 0] 90)).cell? ⟨1,0,none⟩=some (.iface 236 (.agg #[.pointer (some ⟨2,40,none⟩)])):=h.mod ((Mod.refl _ w).alloc _);have HG:=dV hg1;have hlt:0<w.heap.size:=by
  rcases Nat.eq_zero_or_pos w.heap.size with h0 | h'
  ·simp [ET,World.cell?,h0] at h
  ·exact h'
 clear hg1;go_enter Tryz.func67,Tryz.ntmps67;go_wp2_with fail;refine (JJ e ⟨w.heap.size,0,none⟩ (.int .i64 0) _ HG.out (by simp) (by simp)).mono ?_;rintro ev w1 ⟨rfl,hw1⟩;have hc:w1.cell? ⟨w.heap.size,0,none⟩=some (.int .i64 e):=by
  rw [hw1];exact ((((((dg.new w [.int .i64 0] 90).mod ((Mod.refl dZ _).alloc _) id).mod ((Mod.refl dZ _).alloc _) id).mod ((Mod.refl dZ _).alloc _) id).mod ((Mod.refl dZ _).alloc _) id).set 0 _).cell 0 rfl
 have hm:Mod dZ w w1:=by
  rw [hw1];exact ((((((Mod.refl dZ w).alloc _).alloc _).alloc _).alloc _).alloc _).setCell (p:=⟨w.heap.size,0,none⟩) (fun h=>absurd h (cX _)) _
 clear hw1 HG;go_wp2_with fail;go_ret;exact ⟨rfl,hm⟩
def rh(m:Nat)(s:fy):Prop:=∀ k c,c∈(s k).held\/c∈(s k).waits->1<=c.tx/\c.tx<=(m:Int)
theorem rh.lock{m:Nat}{s:fy}(h:rh m s){name:ByteArray}(ha:mu (s name)){c:de}(hc:1<=c.tx/\c.tx<=(m:Int)):rh m (jX s name (iv (s name) c).1):=fun k d hd=>by
 by_cases e:k=name
 ·subst e;rw [wE] at hd;unfold iv at hd;split at hd
  ·exact h k d hd
  split at hd
  ·exact h k d hd
  split at hd
  ·rcases hd with hd | hd
   ·rcases (oC ha.held c d).1 hd with rfl | ⟨hd,_⟩
    ·exact hc
    ·exact h k d (.inl hd)
   ·exact h k d (.inr hd)
  split at hd
  ·exact h k d hd
  ·rcases hd with hd | hd
   ·exact h k d (.inl hd)
   ·rcases (oC ha.waits c d).1 hd with rfl | ⟨hd,_⟩
    ·exact hc
    ·exact h k d (.inr hd)
 ·rw [xW e] at hd;exact h k d hd
theorem rh.rel{m:Nat}{s:fy}(h:rh m s)(t:Int):rh m (gP s t):=fun k d hd=>by
 unfold gP at hd;split at hd
 ·unfold mC at hd;rcases hd with hd | hd
  ·rcases (Bm _ _ _ d).1 hd with q | q
   ·exact h k d (.inl (pP.1 q).1)
   ·exact h k d (.inr (pP.1 q).1)
  ·rcases (Bm _ _ _ d).2.1 hd with q | q
   ·simp at q
   ·exact h k d (.inr (pP.1 q).1)
 ·exact h k d hd
theorem Tm:∀ (l:List de) (a m:Int),kZ l->(∀ c∈l,a<c.tx/\c.tx<=m)->a<=m->(l.length:Int)<=m - a
 | [],a,m,_,_,h=>by simp;omega
 | c :: l,a,m,he,hb,SS=>by
  have h0:=hb c (List.mem_cons_self ..);unfold kZ at he;rw [List.pairwise_cons] at he;have:=Tm l c.tx m he.2 (fun d hd=>⟨he.1 d hd,(hb d (bS _ hd)).2⟩) h0.2;simp only [aW];omega
theorem rh.few{m:Nat}{s:fy}(h:rh m s)(hm:m<=60){k:ByteArray}(ha:mu (s k)):(s k).held.length+(s k).waits.length<=120:=by
 have h1:=Tm (s k).held 0 m ha.held (fun c hc=>⟨by have:=(h k c (.inl hc)).1;omega,(h k c (.inl hc)).2⟩) (by omega);have h2:=Tm (s k).waits 0 m ha.waits (fun c hc=>⟨by have:=(h k c (.inr hc)).1;omega,(h k c (.inr hc)).2⟩) (by omega);omega
theorem Rg(k:ec)(c:de):∀ t∈(iv k c).2.2.1,∃ d∈k.held,d.tx=t:=fun t ht=>by
 unfold iv at ht;split at ht
 ·simp at ht
 split at ht
 ·simp at ht
 split at ht
 ·simp at ht
 split at ht
 ·simp at ht
 ·obtain ⟨d,hd,rfl⟩:=af.1 ht;exact ⟨d,(bE.1 hd).1,rfl⟩
theorem ET.keep{w w':World}{n g:Nat}{y y':dY}(h:ET w)(ho:yM w n g y)(hn:1<n)(hs:iG w y w' y'):ET w':=hs.md.cell h (fun e=>by have:=(ho.lt 1 e).1;omega)
theorem dx.FA{w:World}{n c g:Nat}{y:dY}{s:dX}(h:dx w n c g y s)(hki:rh s.dW.length s.keys)(hl:s.dW.length<=60)(hc:c<=10000)(id:Int)(hid:1<=id/\id<=(s.dW.length:Int))(key:ByteArray)(hk:key.size<=20)(mode:Int)(hm:mode=1\/mode=2) :
  Calls Tryz.prog 66 #[.pointer (some ⟨g,5,none⟩),.int .i64 id,.string key,.int .i64 mode] w fun e w'=>∃ (ok:Bool) (u:Value) (y':dY),e=.returned (.tuple #[.bool ok,u,je (ix s id key mode).2.2]) /\
   dx w' n (c+1) g y' (ix s id key mode).1/\eL w y w' y'/\zM w' y' u (ix s id key mode).2.1:=by
 have hok:gA key:=by unfold gA maxLen;omega
 refine (ySj n 120 (y.tb g s.net.lost) s.keys id key mode w h.xd hm hk (by omega) (by have:=h.qn.2.2;show y.q.n<=1000000;omega) (aJ h.low (Nat.le_of_lt h.blk.lt))).mono ?_;rintro e w' ⟨q',u,rfl,hQ⟩;have hkey:=h.tab.ok key hok;obtain ⟨hH,hS⟩:=h.Em (c':=c+1) hQ.md hQ.tb hQ.b hQ.pre hQ.post hQ.t (by have:=hQ.n;have:=h.qn.2.2;show q'.n<=c+1;have:(y.tb g s.net.lost).n=y.q.n:=rfl;omega) hQ.own (fun k hk=>(hki.lock hkey hid).few hl (hQ.tb.ok k hk));refine ⟨_,u,_,rfl,hH,⟨hS,rfl,rfl,rfl,rfl,rfl⟩,TW hQ.fc,fun k hk=>?_⟩;obtain ⟨h1,h2,cur,h3⟩:=fW hQ.fc hk;refine ⟨?_,h2⟩;have hno:¬ q'.own k:=fun e=>by
  rcases e with e | ⟨z,i,hz,e⟩
  ·have hmm:=hQ.tb.map;unfold qK at hmm;rw [e] at hmm;obtain ⟨_,D,⟨es,clock,h4,_⟩,_⟩:=hmm;rw [h4] at h3;simp at h3
  ·obtain ⟨_,_,cur',h4⟩:=hQ.tb.old hz (fun x=>x) e;rw [h4] at h3;simp at h3
 simp only [dY.pq];rw [aK (fun e=>hno e.2)];by_cases e:y.own k=.no
 ·exact e
 ·have:=(h.own.lt k e).2;omega
theorem yTz(er:Int)(w:World)(h:ET w):Calls Tryz.prog 67 #[je er] w fun e w'=>e=.returned (.int .i64 er)/\Mod dZ w w':=by
 by_cases he:er=0
 ·subst he;rw [ou];exact (yQy w).mono (fun e w' ⟨h1,h2⟩=>⟨h1,h2 ▸ Mod.refl _ _⟩)
 ·rw [mS he];exact yJi er w h
structure Mg(w:World)(n c:Nat)(s:dX):Prop where
 sh:lr s
 ki:rh s.dW.length s.keys
 et:ET w
 n:1<n
 c:c<=9000
theorem gG.shape{s s':dX}(h:gG s s')(hs:lr s)(hw:∀ t∈s'.dW,t.writes.length<=20):lr s':=by
 refine ⟨by rw [h.l];exact hs.ll,by rw [h.l];exact hs.nl,by rw [h.len];exact hs.tl,fun t ht=>?_,hw⟩;obtain ⟨i,hi⟩:=aO ht;have hil:i<s'.dW.length:=(aB.1 hi).1;have e1:s'.tx (i+1)=t:=by
  have:=uG (s:=s') (id:=i+1) (by omega) (by omega);rw [bP,hi] at this;exact (ax this).symm
 have:=h.at_ (i+1);rw [e1] at this;rw [this,h.l];exact hs.ta _ (Cf (by omega) (by rw [h.len] at hil;omega))
theorem KJ(s:dX)(id:Nat)(t:jR)(h:∀ t∈s.dW,t.writes.length<=20)(ht:t.writes.length<=20):∀ x∈(db s id t).dW,x.writes.length<=20:=fun x hx=>by
 rcases bQ hx with q | q
 ·exact h x q
 ·rw [q];exact ht
theorem GQ{s:dX}(h:∀ t∈s.dW,t.writes.length<=20)(id:Nat):(s.tx id).writes.length<=20:=by
 unfold dX.tx;rw [aI]
 cases hq:s.dW[id - 1]? with
 | none=>simp
 | some t=>exact h t (aC hq)
theorem zQb(s:dX)(id:Nat)(st:Int)(h:∀ t∈s.dW,t.writes.length<=20):∀ t∈(oq s id st).dW,t.writes.length<=20:=KJ s id _ h (by simp)
theorem yDw(s:dX)(id:Nat)(h:∀ t∈s.dW,t.writes.length<=20):∀ t∈(gi s id).dW,t.writes.length<=20:=by
 unfold gi;refine zQb _ id 4 ?_;split
 ·exact KJ s id _ h (GQ h id)
 ·exact h
theorem Rh:∀ (ids:List Int) (s:dX),(∀ t∈s.dW,t.writes.length<=20)->∀ t∈(jV s ids).dW,t.writes.length<=20
 | [],_,h=>h
 | i :: ids,s,h=>by
  show ∀ t∈(jV (eH s i) ids).dW,_;refine Rh ids _ ?_;unfold eH;split
  ·exact yDw s _ h
  ·exact h
theorem lr.fc{s:dX}(h:lr s)(ids:List Int):lr (jV s ids):=(gG.fc ids s).shape h (Rh ids s h.tw)
theorem lr.locked{s:dX}(h:lr s)(id:Int)(key:ByteArray)(mode:Int):lr (ix s id key mode).1:=⟨h.ll,h.nl,h.tl,h.ta,h.tw⟩
theorem yCf{m:Nat}{s:dX}(h:rh m s.keys)(id:Nat):rh m (gi s id).keys:=by
 have e:(gi s id).keys=gP s.keys id:=by unfold gi oq;split <;> rfl
 rw [e];exact h.rel _
theorem Us{m:Nat}:∀ (ids:List Int) {s:dX},rh m s.keys->rh m (jV s ids).keys
 | [],_,h=>h
 | i :: ids,s,h=>by
  show rh m (jV (eH s i) ids).keys;refine Us ids ?_;unfold eH;split
  ·exact yCf h _
  ·exact h
theorem zXc(s:dX)(id:Int)(key:ByteArray)(mode:Int):(jT s id key mode).1.dW.length=s.dW.length/\(jT s id key mode).1.lines=s.lines:=by
 unfold jT;simp only;split
 ·exact ⟨(gG.fc _ (ix s id key mode).1).len,(gG.fc _ (ix s id key mode).1).l⟩
 ·exact ⟨rfl,rfl⟩
theorem yCb{s:dX}{id:Int}{key:ByteArray}{mode:Int}(h:rh s.dW.length s.keys)(hko:mu (s.keys key))(hid:1<=id/\id<=(s.dW.length:Int)):∀ i∈(jT s id key mode).2.1,1<=i/\i<=(s.dW.length:Int):=fun i hi=>by
 unfold jT at hi;simp only at hi;split at hi
 ·obtain ⟨d,hd,rfl⟩:=Rg _ _ i hi;have hk1:rh s.dW.length (ix s id key mode).1.keys:=h.lock hko hid;exact Us _ hk1 key d (.inl hd)
 ·obtain ⟨d,hd,rfl⟩:=Rg _ _ i hi;exact h key d (.inl hd)
theorem dx.su{w:World}{n c c' g:Nat}{y:dY}{s:dX}(h:dx w n c g y s)(hc:c<=c'):dx w n c' g y s:={ h with qn:=⟨h.qn.1,h.qn.2.1,aJ h.qn.2.2 hc⟩ }
theorem dx.fresh{w w':World}{n c g:Nat}{y:dY}{s:dX}(h:dx w n c g y s){u:Value}{l:List Int}(hr:jM w' w.heap.size u l):zM w' y u l:=by
 refine ⟨TW hr,fun k hk=>?_⟩;obtain ⟨h1,h2,_⟩:=fW hr hk;refine ⟨?_,h2⟩;by_cases e:y.own k=.no
 ·exact e
 ·have:=(h.own.lt k e).2;omega
theorem Qk{w:World}{B b m cap k:Nat}{l:List Int}{x:Int}(h:w.ownsRow B 3 1 (.slice (some ⟨b,0,none⟩) m cap) l.length (l.map (Value.int .i64)))(hk:k<l.length):(w.setCell ⟨b,k,none⟩ (.int .i64 x)).ownsRow B 3 1 (.slice (some ⟨b,0,none⟩) m cap) (l.set k x).length ((l.set k x).map (Value.int .i64))/\(∃ u,w.cell? ⟨b,k,none⟩=some u)/\w.frozen? ⟨b,k,none⟩=false:=by
 obtain ⟨h1,h2⟩:=h;rcases h2 with ⟨e,_⟩ | ⟨b',cap',cur,e,q1,q2,q3,q4,q5,q6⟩
 ·simp at e
 ·simp only [Value.slice.injEq,ae,Addr.mk.injEq] at e;obtain ⟨⟨rfl,_,_⟩,rfl,rfl⟩:=e;have hB:dg w b cur.toList 3:=by unfold dg;rw [q2]
  have gp:=hB.set k (.int .i64 x);have hkc:k<cur.toList.length:=by rw [cK];omega
  refine ⟨⟨by simp,.inr ⟨b,cap,(cur.toList.set k (.int .i64 x)).toArray,by rw [ag],q1,?_,by rw [ag];exact q3,q4,?_,?_⟩⟩,⟨_,hB.cell k (aA hkc)⟩,hB.frozen k⟩
  ·exact gp
  ·simp;omega
  ·rw [ag,cZ];rw [cZ] at q6;simp only [List.map_set];rw [<-q6,List.take_set]
theorem dx.came{w:World}{n c g:Nat}{y:dY}{s:dX}(h:dx w n c g y s){id k b ab cap:Nat}(h1:1<=id)(h2:id<=s.dW.length)(hb:y.jo[id - 1]?=some b)(hk:k<(s.tx id).ats.length)(np:y.jQ b=.slice (some ⟨ab,0,none⟩) (s.tx id).ats.length cap) :
  ∃ y',dx (w.setCell ⟨ab,k,none⟩ (.int .i64 1)) n c g y' (nC s id k)/\eL w y (w.setCell ⟨ab,k,none⟩ (.int .i64 1)) y':=by
 have hT:=h.tx (id - 1) b _ hb (uG h1 h2);have hrow:=hT.ats;rw [np] at hrow;obtain ⟨r1,_,_⟩:=Qk (x:=1) hrow hk;have r2:Mod (eA ab) w (w.setCell ⟨ab,k,none⟩ (.int .i64 1)):=Mod.dt ab k _;have pD:ab≠b:=fun e=>oP hrow hT.blk (by decide) (by rw [e];rfl);have hne:∀ k,(y.jq b).ownBlock=some k->k≠ab:=fun k hk e=>by
  subst e;obtain ⟨_,_,cur,hc1⟩:=fW hT.wr hk;obtain ⟨_,_,cur',hc2⟩:=fW hrow rfl;rw [hc1] at hc2;simp at hc2
 obtain ⟨jy,hS1⟩:=h.po hb (uG h1 h2) (t':={ s.tx id with ats:=(s.tx id).ats.set k 1 }) (av:=y.jQ b) (wv:=y.jq b) (r2.mono (fun x _ e=>.inr (.inl (by rw [np];exact ai some (Eq.symm e))))) (hT.blk.mod r2 (fun e=>pD (Eq.symm e))) (by rw [np];exact r1) (fm hT.wr r2 (fun k _ _ e q=>hne k e q)) (.inl (.inl rfl)) (.inl (.inl rfl));rw [Js] at jy;exact ⟨_,jy,hS1,rfl,rfl,rfl,rfl,rfl⟩
theorem lr.came{s:dX}(h:lr s)(id k:Nat):lr (nC s id k):=
 (gG.db s id { s.tx id with ats:=(s.tx id).ats.set k 1 } (by simp)).shape h (KJ s id _ h.tw (GQ h.tw id))
def Le(w:World)(n c g:Nat)(y:dY)(s':dX)(er:Int)(e:Ending)(w':World):Prop:=e=.returned (je er)/\∃ y',dx w' n c g y' s'/\eL w y w' y'
theorem yCl(n c g:Nat)(y:dY)(s:dX)(id:Nat)(key:ByteArray)(mode:Int)(w:World)(h:dx w n c g y s)(hok:Mg w n c s)(h1:1<=id)(h2:id<=s.dW.length)(hk:key.size<=20)(hm:mode=1\/mode=2) :
  Calls Tryz.prog 38 #[.pointer (some ⟨g,0,none⟩),.int .i64 id,.string key,.int .i64 mode] w (Le w n (c+2) g y (gV s id key mode).1 (gV s id key mode).2):=by
 have htl:=hok.sh.tl;have hcc:=hok.c;have DO:gA key:=by unfold gA maxLen;omega
 have LV:=dV (h.FA hok.ki htl (by omega) id ⟨by omega,by omega⟩ key hk mode hm);have hmk:=Jq;have od:=dV hok;have HO:=dV h.own;have LW:=dV (h.tab.ok key DO);clear h hok;go_enter Tryz.func38,Tryz.ntmps38;go_upto_region 1 with fail;go_wp2_with fail;refine LV.out.mono ?_;rintro e w1 ⟨ok,u,y1,rfl,jy,pU,YU⟩;have Yn:ET w1:=od.out.et.keep HO.out od.out.n pU.st;obtain ⟨ua,uc,DJ,_,_⟩:=fV.slice YU.1;subst DJ;have vl:=dV (yTz (ix s id key mode).2.2 w1 Yn);have HY:Hid (∀ wq,Mod dZ w1 wq->Calls Tryz.prog 51 #[.pointer (some ⟨g,0,none⟩),.int .i64 id,.string key] wq fun e w'=>e=.returned (.bool (oo (ix s id key mode).1 id key))/\Mod dZ wq w'):=fun wq hq=>yAk n (c+1) g y1 _ id key wq (jy.quiet hq) htl DO;have sa:=dV jy;have BQ:=dV pU;have ZR:=dV YU;have HE1:=dV Yn;have HER:Hid (ix s id key mode=((ix s id key mode).1,(ix s id key mode).2.1,(ix s id key mode).2.2)):=rfl;obtain ⟨s1,hs1⟩:∃ x,x=(ix s id key mode).1:=⟨_,rfl⟩;obtain ⟨Vo,DH⟩:∃ x,x=(ix s id key mode).2.1:=⟨_,rfl⟩;obtain ⟨yI,Da⟩:∃ x,x=(ix s id key mode).2.2:=⟨_,rfl⟩;have Qe:Hid (jT s id key mode=if yI=4/\oo s1 id key=true then ix (jV s1 (oO s1 id key)) id key mode else (s1,Vo,yI)):=by rw [hs1,DH,Da];rfl
 have sN:Hid (lr s1/\rh s1.dW.length s1.keys/\s1.dW.length=s.dW.length):=by
  rw [hs1];exact ⟨od.out.sh.locked _ _ _,od.out.ki.lock LW.out ⟨by show (1:Int)<=(id:Int);omega,by show (id:Int)<=_;omega⟩,rfl⟩
 rw [<-hs1] at HY sa;rw [<-DH] at ZR;rw [<-Da] at vl;rw [<-Da,<-DH];clear jy pU YU Yn LV HER hs1 DH Da;go_upto_region 2 with fail;go_cut [31] (fun t wc=>t=.bool (decide (yI=4) && oo s1 id key)/\Mod dZ w1 wc)
 case first=>
  by_cases he:yI=4
  ·have Ib:(yI == 4)=true:=by simpa using he
   have HD:Hid (decide (yI=4)=true):=aQ he;clear he
   cases hy:oo s1 id key
   all_goals
    rw [hy] at HY;go_wp2_with (first
     | (go_at_call 67;refine vl.out.mono ?_;rintro e w2 ⟨rfl,hm2⟩)
     | (go_at_call 51;refine (HY.out _ hm2).mono ?_;rintro e w3 ⟨rfl,dy⟩)
     | fail)
    go_meet
    case rel=>exact ⟨by rw [HD.out,hy];rfl,hm2.trans dy⟩
  ·have Ib:(yI == 4)=false:=by simpa using he
   have HD:Hid (decide (yI=4)=false):=aL he;clear he;go_wp2_with (first
    | (go_at_call 67;refine vl.out.mono ?_;rintro e w2 ⟨rfl,hm2⟩)
    | fail)
   go_meet
   case rel=>exact ⟨by rw [HD.out];rfl,hm2⟩
 case rest=>
  obtain ⟨rfl,mz⟩:=hcut;have Fu:=dV (sa.out.quiet mz);have Zw:=dV (BQ.out.trans (eL.quiet mz));have HUC:=dV (ZR.out.keep (iG.quiet mz));obtain ⟨wd,hwd⟩:∃ x,x=wc:=⟨_,rfl⟩;subst hwd;clear mz vl HY sa BQ ZR;go_upto_if 31 with fail;go_cut [10,11] (fun v e wc=>e=je (jT s id key mode).2.2/\∃ yc,dx wc n (c+2) g yc (jT s id key mode).1/\eL w y wc yc/\zM wc yc v (jT s id key mode).2.1)
  case first=>
   by_cases hb:yI=4/\oo s1 id key=true
   ·have hbb:(decide (yI=4) && oo s1 id key)=true:=by rw [hb.1,hb.2];rfl
    rw [hbb];have Qd:Hid (jT s id key mode=ix (jV s1 (oO s1 id key)) id key mode):=by unfold Hid;rw [Qe.out,aP hb]
    have QA:=dV (zWy n (c+1) g y1 s1 id key wd Fu.out (by rw [sN.out.2.2];exact htl) DO);clear hb hbb Qe;go_wp2_with fail;refine QA.out.mono ?_;rintro e w3 ⟨u3,rfl,hu3,dy⟩;have hh3:=Fu.out.quiet dy;have hlen:(oO s1 id key).length<=60:=aJ (Uj s1 id key s1.dW.length) (by rw [sN.out.2.2];exact htl);have wy:=dV (yAo n (c+1) g y1 s1 u3 (oO s1 id key) w3 hh3 sN.out.1 (by omega) (Fu.out.fresh hu3) (fun i hi=>Rb hi));obtain ⟨ua3,uc3,Wz⟩:=eu hu3;subst Wz;have tr:=dV (Zw.out.trans (eL.quiet dy));clear hu3 dy hh3 QA;go_wp2_with fail;refine wy.out.mono ?_;rintro e w4 ⟨rfl,y4,pV,hK4⟩;have hsame:=gG.fc (oO s1 id key) s1;have QJ:=dV (pV.FA (by rw [hsame.len];exact Us _ sN.out.2.1) (by rw [hsame.len,sN.out.2.2];exact htl) (by omega) id (by rw [hsame.len,sN.out.2.2];omega) key hk mode hm);have BP:=dV (tr.out.trans hK4);clear pV hK4 hsame wy tr;go_wp2_with fail;refine QJ.out.mono ?_;rintro e w5 ⟨ok5,u5,y5,rfl,kt,pG,hU5⟩;have HF:Hid (dx w5 n (c+2) g y5 (jT s id key mode).1/\eL w y w5 y5/\zM w5 y5 u5 (jT s id key mode).2.1):=by
     unfold Hid;rw [Qd.out];exact ⟨kt,BP.out.trans pG,hU5⟩
    have HEE:Hid (je (ix (jV s1 (oO s1 id key)) id key mode).2.2=je (jT s id key mode).2.2):=by unfold Hid;rw [Qd.out]
    clear kt pG hU5 QJ BP;go_wp2_with fail;go_meet
    case rel=>exact ⟨HEE.out,y5,HF.out.1,HF.out.2.1,HF.out.2.2⟩
   ·have hbb:(decide (yI=4) && oo s1 id key)=false:=by
     cases hy:oo s1 id key with
     | false=>simp
     | true=>rw [aL (fun q=>hb ⟨q,hy⟩)];rfl
    rw [hbb];have Qd:Hid (jT s id key mode=(s1,Vo,yI)):=by unfold Hid;rw [Qe.out,aK hb]
    have HF:Hid (dx wd n (c+2) g y1 (jT s id key mode).1/\eL w y wd y1/\zM wd y1 (.slice ua Vo.length uc) (jT s id key mode).2.1):=by
     unfold Hid;rw [Qd.out];exact ⟨Fu.out.su (by omega),Zw.out,HUC.out⟩
    have HEE:Hid (je yI=je (jT s id key mode).2.2):=by unfold Hid;rw [Qd.out]
    clear hb hbb;go_wp2_with fail;go_meet
    case rel=>exact ⟨HEE.out,y1,HF.out.1,HF.out.2.1,HF.out.2.2⟩
  case rest=>
   obtain ⟨rfl,yc,Sd,LD,Oy⟩:=hcut;have tK:=zXc s id key mode;have BB:=dV (yCb (mode:=mode) od.out.ki LW.out ⟨by show (1:Int)<=(id:Int);omega,by show (id:Int)<=_;omega⟩);have xB:Hid (lr (jT s id key mode).1):=by
    unfold Hid;rw [Qe.out];split
    ·exact (sN.out.1.fc _).locked _ _ _
    ·exact sN.out.1
   have HL:Hid (gV s id key mode=if (jT s id key mode).2.2=9 then ((jT s id key mode).1,11) else if (jT s id key mode).2.2=4 then ((jT s id key mode).1,4) else
     (jV (nC (jT s id key mode).1 id (ee (jT s id key mode).1 key)) (jT s id key mode).2.1,if iw ((jV (nC (jT s id key mode).1 id (ee (jT s id key mode).1 key)) (jT s id key mode).2.1).keys key).held id<mode then 11 else 0)):=rfl
   have hEc:ET wc:=od.out.et.keep HO.out od.out.n LD.st;clear Qe sN Fu Zw HUC HE1;generalize jT s id key mode=A at Sd Oy tK BB xB HL;obtain ⟨sA,wsA,JC⟩:=A;dsimp only at Sd Oy tK BB xB HL;have vl:=dV (yTz JC wc hEc);have HHc:=dV Sd;have HKc:=dV LD;have HUc:=dV Oy;obtain ⟨va,vc,lI,_,SF⟩:=fV.slice Oy.1;subst lI;clear Sd LD Oy hEc;go_upto_region 5 with fail;go_wp2_with fail;refine vl.out.mono ?_;rintro e w2 ⟨rfl,hm2⟩;have lW:=dV (HHc.out.quiet hm2);have xC:=dV (HKc.out.trans (eL.quiet hm2));have ZQ:=dV (HUc.out.keep (iG.quiet hm2));clear hm2 vl HHc HKc HUc;by_cases e9:JC=9
   ·have b9:(JC == 9)=true:=by simpa using e9
    have HF:Hid (Le w n (c+2) g y (gV s id key mode).1 (gV s id key mode).2 (.returned (.iface 90 (.int .i64 11))) w2):=by
     unfold Hid;rw [HL.out,aP e9];exact ⟨by rw [mS (by omega)],yc,lW.out,xC.out⟩
    clear e9;go_wp2_with fail;go_ret;exact HF.out
   ·have b9:(JC == 9)=false:=by simpa using e9
    by_cases e4:JC=4
    ·have b4:(JC == 4)=true:=by simpa using e4
     have HF:Hid (Le w n (c+2) g y (gV s id key mode).1 (gV s id key mode).2 (.returned (.iface 90 (.int .i64 4))) w2):=by
      unfold Hid;rw [HL.out,aK e9,aP e4];exact ⟨by rw [mS (by omega)],yc,lW.out,xC.out⟩
     clear e9 e4;go_wp2_with fail;go_ret;exact HF.out
    ·have b4:(JC == 4)=false:=by simpa using e4
     have hle:id<=sA.dW.length:=by rw [tK.1];exact h2
     obtain ⟨b,hb,hT⟩:=lW.out.xc (id:=id) h1 hle;have ku:=dV (yg n (c+2) g yc sA id b w2.drew (lW.out.quiet ((Mod.refl dZ w2).drew)) h1 (by omega) hb);have LP:=dV (UD n (c+2) g yc sA key w2.drew (lW.out.quiet ((Mod.refl dZ w2).drew)) xB.out (by omega));have qE:(sA.tx id).ats.length=sA.lines.length:=xB.out.ta _ (Cf h1 hle);have hll:=xB.out.ll;have hsk:ee sA key<(sA.tx id).ats.length:=by
      have:ee sA key<du sA:=dH _ (by unfold du;omega);unfold du at this;omega
     obtain ⟨ab,rH,np⟩:∃ ab rH,yc.jQ b=.slice (some ⟨ab,0,none⟩) (sA.tx id).ats.length rH:=by
      rcases hT.ats.2 with ⟨e,h0⟩ | ⟨g',cap',cur,e,_⟩
      ·omega
      ·exact ⟨g',cap',e⟩
     have t1:=hT.blk.cell 1 rfl;have hrow:=hT.ats;rw [np] at t1 hrow;obtain ⟨_,⟨u0,a0⟩,f0⟩:=Qk (x:=1) hrow hsk;have EE:=dV (lW.out.came h1 hle hb hsk np);have HSC:=dV (xB.out.came id (ee sA key));obtain ⟨kk,hkk⟩:∃ x,x=ee sA key:=⟨_,rfl⟩;rw [<-hkk] at LP EE hsk a0 f0 HL HSC;have xu:(kk:Int)<((sA.tx id).ats.length:Int):=by omega
     have qs:(0:Int)<=(kk:Int):=by omega
     have zb:=hT.blk.lt;clear hT hb np hrow e9 e4 hkk qE;go_upto_region 10 with fail;refine wp_region_still_tail 10 (by kernel_rfl) (by kernel_rfl) ?_;simp only [aw,bf,bY,cC]
     repeat still_step
     still_call ku.out
     repeat still_step
     still_call LP.out
     repeat still_step
     refine wpStill_nil ?_;go_upto_region 11 with fail;obtain ⟨y3,sJ,hK3⟩:=EE.out;obtain ⟨w3,hw3⟩:∃ x,x=(w2.setCell ⟨ab,kk,none⟩ (.int .i64 1)).drew:=⟨_,rfl⟩;have dy:Mod dZ (w2.setCell ⟨ab,kk,none⟩ (.int .i64 1)) w3:=by rw [hw3];exact (Mod.refl dZ _).drew
     rw [<-hw3];have PK:=sJ.quiet dy;have Ir:=hK3.trans (eL.quiet dy);have hU3:=ZQ.out.keep Ir.st;have hlc:(nC sA id kk).dW.length=s.dW.length:=(my _ _ _).trans tK.1;have wy:=dV (yAo n (c+2) g y3 (nC sA id kk) _ wsA w3 PK HSC.out (by omega) hU3 (fun i hi=>by rw [hlc];exact BB.out i hi));have tr:=dV (xC.out.trans Ir);clear hw3 dy sJ hK3 PK Ir hU3 EE ku LP a0 f0 t1;go_wp2_with fail;refine wy.out.mono ?_;rintro e w4 ⟨rfl,y4,pV,hK4⟩;have JZ:=dV (pV.holds id key DO);have TC:=dV pV;have BP:=dV (tr.out.trans hK4);clear pV hK4 wy tr;generalize hS:jV (nC sA id kk) wsA=sF at JZ TC HL;go_upto_region 12 with fail;go_wp2_with fail;refine JZ.out.mono ?_;rintro e w5 ⟨rfl,eP⟩;have LY:=dV (TC.out.quiet eP);have Ft:=dV (BP.out.trans (eL.quiet eP));by_cases hlo:iw (sF.keys key).held id<mode
     ·have hlb:decide (iw (sF.keys key).held id<mode)=true:=aQ hlo;have HF:Hid (Le w n (c+2) g y (gV s id key mode).1 (gV s id key mode).2 (.returned (.iface 90 (.int .i64 11))) w5):=by
       unfold Hid;rw [HL.out,aK (by simpa using b9),aK (by simpa using b4),aP hlo];exact ⟨by rw [mS (by omega)],y4,LY.out,Ft.out⟩
      clear hlo;go_wp2_with fail;go_ret;exact HF.out
     ·have hlb:decide (iw (sF.keys key).held id<mode)=false:=aL hlo;have HF:Hid (Le w n (c+2) g y (gV s id key mode).1 (gV s id key mode).2 (.returned .nilIface) w5):=by
       unfold Hid;rw [HL.out,aK (by simpa using b9),aK (by simpa using b4),aK hlo];exact ⟨by rw [ou],y4,LY.out,Ft.out⟩
      clear hlo;go_wp2_with fail;go_ret;exact HF.out
theorem ySu{w:World}{n c g:Nat}{y:dY}{s:dX}(h:dx w n c g y s){k b d:Nat}(hk:k<s.lines.length)(hb:y.gF[k]?=some b)(hd:(y.fL b)[0]?=some d):uX s k=if gS s (y.st s d) then some (y.st s d) else none:=by
 have hm:=h.uu hb (ma hk);unfold uX
 cases hn:y.fL b with
 | nil=>rw [hn] at hd;simp at hd
 | cons a l=>
  rw [hn] at hd hm;simp at hd;subst hd;rw [<-hm];rfl
theorem dx.Oi{w:World}{n c g:Nat}{y:dY}{s:dX}(h:dx w n c g y s)(hs:lr s){k:Nat}(hk:k<s.lines.length):∃ b d,y.gF[k]?=some b/\(y.fL b)[0]?=some d:=by
 obtain ⟨b,hb,hL⟩:=h.nJ hk;have:=(hs.nl _ (Jp hk)).1;have:=hL.len;exact ⟨b,_,hb,aA (by omega)⟩
theorem yRc{s:dX}(hs:lr s)(key:ByteArray):ee s key<s.lines.length:=by
 have hll:=hs.ll;have:ee s key<du s:=dH _ (by unfold du;omega);unfold du at this;omega
def Qf(y:dY)(s:dX)(id:Int)(key:ByteArray)(e:Ending):Prop:=
 (nu s id key≠0/\e=.returned (.tuple #[.pointer none,je (nu s id key)])) \/
 (nu s id key=0/\∃ b d,y.gF[ee s key]?=some b/\(y.fL b)[0]?=some d/\gS s (y.st s d)=true/\e=.returned (.tuple #[.pointer (some ⟨d,0,none⟩),.nilIface]))
theorem yIi(n c g:Nat)(y:dY)(s:dX)(id:Int)(key:ByteArray)(w:World)(h:dx w n c g y s)(hs:lr s)(hk:gA key) :
  Calls Tryz.prog 37 #[.pointer (some ⟨g,0,none⟩),.int .i64 id,.string key] w fun e w'=>Qf y s id key e/\Mod dZ w w':=by
 have pY:=dV (To n c g y s id w h hs.tl);have hmk:=Jq;unfold gA maxLen at hk;by_cases ho:pL s id=0
 ·rw [ho,ou] at pY;by_cases hl:20<key.size
  ·have hlb:decide ((key.size:Int) > 20)=true:=aQ (by omega);have HC:Hid (nu s id key=4):=by unfold Hid nu;rw [aK (fun q=>q ho),aP hl]
   clear h ho hl;go_enter Tryz.func37,Tryz.ntmps37;go_wp2_with (first
    | (go_at_call 35;refine pY.out.mono ?_;rintro e w1 ⟨rfl,rfl⟩)
    | fail)
   go_ret2;exact ⟨.inl ⟨by rw [HC.out];omega,by rw [HC.out,mS (by omega)];rfl⟩,Mod.refl _ _⟩
  ·have hlb:decide ((key.size:Int) > 20)=false:=aL (by omega);have hsl:=yRc hs key;obtain ⟨b,d,hb,hd⟩:=h.Oi hs hsl;have LP:=dV (UD n c g y s key w h hs (by omega));have BU:=dV (yCm n c g y s (ee s key) b d w h hsl hb hd);have sQ:=dV (ySu h hsl hb hd);have HB:=dV hb;have HD:=dV hd;have xF:Hid (nu s id key=if (uX s (ee s key)).isNone then 12 else 0):=by unfold Hid nu;rw [aK (fun q=>q ho),aK hl]
   clear h ho hl hb hd
   cases hlv:gS s (y.st s d) with
   | false=>
    rw [hlv] at BU sQ;have HC:Hid (nu s id key=12):=by unfold Hid;rw [xF.out,sQ.out];rfl
    clear xF sQ;go_enter Tryz.func37,Tryz.ntmps37;go_wp2_with (first
     | (go_at_call 35;refine pY.out.mono ?_;rintro e w1 ⟨rfl,rfl⟩)
     | (go_at_call 65;refine LP.out.mono ?_;rintro e w2 ⟨rfl,rfl⟩)
     | (go_at_call 64;refine BU.out.mono ?_;rintro e w3 ⟨rfl,dy⟩)
     | fail)
    go_ret2;exact ⟨.inl ⟨by rw [HC.out];omega,by rw [HC.out,mS (by omega)];rfl⟩,dy⟩
   | true=>
    rw [hlv] at BU sQ;have HC:Hid (nu s id key=0):=by unfold Hid;rw [xF.out,sQ.out];rfl
    clear xF sQ;go_enter Tryz.func37,Tryz.ntmps37;go_wp2_with (first
     | (go_at_call 35;refine pY.out.mono ?_;rintro e w1 ⟨rfl,rfl⟩)
     | (go_at_call 65;refine LP.out.mono ?_;rintro e w2 ⟨rfl,rfl⟩)
     | (go_at_call 64;refine BU.out.mono ?_;rintro e w3 ⟨rfl,dy⟩)
     | fail)
    go_ret2;exact ⟨.inr ⟨HC.out,b,d,HB.out,HD.out,hlv,rfl⟩,dy⟩
 ·rw [mS ho] at pY;have HC:Hid (nu s id key=pL s id):=by unfold Hid nu;rw [aP ho]
  have HO:=dV ho;clear h ho;go_enter Tryz.func37,Tryz.ntmps37;go_wp2_with (first
   | (go_at_call 35;refine pY.out.mono ?_;rintro e w1 ⟨rfl,rfl⟩)
   | fail)
  go_ret2;exact ⟨.inl ⟨by rw [HC.out];exact HO.out,by rw [HC.out,mS HO.out];rfl⟩,Mod.refl _ _⟩
section
variable {P:Program} {ops:Array Oper} {Q:Exit->Act->World->Prop} {md:Region.Mode} {C:World->Prop}
theorem Ln{c:Code}{a:Act}{w:World}(h:∀ b,b=a->c.wp P Q b w):c.wp P Q a w:=h a rfl
theorem MA{c:Code}{a:Act}{w:World}(h:∀ Q',Q'=Q->c.wp P Q' a w):c.wp P Q a w:=h Q rfl
theorem rQ{o og:Oper}{a:Act}{g t:Nat}{want:Bool}(hg:o.guard=some (g,want))(hop:ops[g]?=some og)(hd:og.dst=some t)(hv:a.eval (.tmp t)=.bool want):Region.wanted o (yielded ops a.tmps)=true:=by
 have h:a.tmps[t]?=some (.bool want):=by
  simp only [Act.eval,Array.getD_eq_getD_getElem?] at hv
  cases ht:a.tmps[t]? with
  | none=>rw [ht] at hv;simp [undef] at hv
  | some x=>rw [ht] at hv;simp at hv;rw [hv]
 simp only [Region.wanted,hg,yielded,hop,cE,hd,h];exact beq_self_eq_true _
def yd(P:Program)(ops:Array Oper)(C:World->Prop)(o:Oper)(v:Value)(a:Act):Prop:=
 Region.wanted o (yielded ops a.tmps)=true/\∀ w,C w->(execOp a.eval o).run P w=.ok (.value v) w
theorem yd.of_same{o:Oper}{v:Value}{a a':Act}(hy:yd P ops C o v a)(he:execOp a'.eval o=execOp a.eval o)
  (hw:Region.wanted o (yielded ops a'.tmps)=Region.wanted o (yielded ops a.tmps)):yd P ops C o v a':=by
 unfold yd at *;rw [he,hw];exact hy
theorem yd.wpOp{i:Nat}{o:Oper}{v:Value}{a:Act}(hi:ops[i]?=some o)(hy:yd P ops C o v a)
  {K:Act->World->Prop} {w:World} (hC:C w) (h:K (a.put o.dst v) w):wpOp P ops Q i K a w:=by
 unfold Go.wpOp;simp only [hi];obtain ⟨hw,hv⟩:=hy;simp only [hw,if_true,Oper.wp,hv w hC,Oper.upon];exact .inl h
theorem yEj{j:Nat}{oj:Oper}(hj:ops[j]?=some oj){K:Act->World->Prop}{a:Act}{w:World}(h:wpOp P ops Q j K a w) :
  wpOp P ops Q j (fun a' w'=>K a' w'/\∃ u ds,a'={ a.put oj.dst u with defers:=ds }) a w:=by
 have dd:∀ u ds,({ a with defers:=ds }:Act).put oj.dst u={ a.put oj.dst u with defers:=ds }:=fun u ds=>by cases oj.dst <;> rfl
 unfold wpOp at h ⊢;simp only [hj] at h ⊢;by_cases hw:Region.wanted oj (yielded ops a.tmps)=true
 ·rw [aP hw] at h ⊢;refine h.imp (fun h=>?_) id;unfold Oper.wp at h ⊢
  cases hr:(execOp a.eval oj).run P w with
  | halt x w'=>rw [hr] at h;cases x <;> exact h
  | ok n w'=>
   rw [hr] at h
   cases n with
   | value u=>exact ⟨h,u,_,rfl⟩
   | skip=>exact ⟨h,undef,_,rfl⟩
   | defer d=>exact ⟨h,undef,_,dd _ _⟩
   | enter f args=>
    refine Calls.mono h fun e w'' he=>?_
    cases e with
    | returned u=>exact ⟨he,u,_,rfl⟩
    | panicked c=>exact he
    | outgrown=>exact he
   | row r args=>exact Rows.mono h fun u w'' he=>⟨he,u,_,rfl⟩
   | _=>exact h
 ·rw [aK hw] at h ⊢;exact ⟨h,undef,_,rfl⟩
theorem yMa{j:Nat}{oi oj:Oper}{v:Value}(hj:ops[j]?=some oj)(hap:oi.apart ops oj=true)
  (Nj:∀ cs b,oi.op≠.select cs b) (hsj:∀ cs b,oj.op≠.select cs b)
  (hQ:∀ c a w,Q (.panic c) (a.put oi.dst v) w->Q (.panic c) a w) {K:Act->World->Prop} {a:Act} {w:World}
  (hy:yd P ops C oi v a) (h:wpOp P ops Q j K (a.put oi.dst v) w) :
  wpOp P ops Q j (fun a' w'=>yd P ops C oi v a'/\K (a'.put oi.dst v) w') a w:=by
 obtain ⟨h1,h2,h3⟩:=Oper.apart_spec hap;have hl:({ oi with op:=.assign (.const v),guard:=none }:Oper).looksAt ops=[]:=by simp [Oper.looksAt,Op.operands]
 have hc:({ oi with op:=.assign (.const v),guard:=none }:Oper).apart ops oj=true:=by
  unfold Oper.apart;rw [hl]
  cases hd:oi.dst with
  | none=>cases oj.dst <;> simp
  | some d=>
   have q1:(oj.looksAt ops).contains d=false:=by simpa using h1 d hd
   have q2:(oj.dst != some d)=true:=by simpa using h2 d hd
   simp only [q1,q2]
   cases oj.dst <;> simp
 have hyc:Yields P ops { oi with op:=.assign (.const v),guard:=none } v a:=.inl ⟨by simp [Region.wanted],fun w=>rfl⟩;refine wpOp_mono ?_ (yEj hj (wpOp_put (oi:={ oi with op:=.assign (.const v),guard:=none }) hj hc (fun cs b=>by simp) hsj hQ hyc h));rintro a' w' ⟨⟨_,hk⟩,u,ds,rfl⟩;exact ⟨hy.of_same (execOp_put oi Nj a oj.dst u h3) (wanted_put oi a oj.dst u h3),hk⟩
def ny(P:Program)(md:Region.Mode)(ops:Array Oper)(last:Nat)(C:World->Prop)(Q:Exit->Act->World->Prop):Nat->Array Bool->Act->World->Prop
 | 0,listed,a,w=>Region.ready md ops listed=[]/\Q .normal a w
 | fuel+1,listed,a,w=>
  (Region.ready md ops listed=[]->Q .normal a w) /\
  ∀ i∈Region.ready md ops listed,wpOp P ops Q i (fun a' w'=>(i=last\/C w')/\ny P md ops last C Q fuel (listed.setIfInBounds i true) a' w') a w
theorem zRv{last:Nat}:∀ (fuel:Nat) (listed:Array Bool) (a:Act) (w:World),ny P md ops last C Q fuel listed a w->wpAny P md ops Q fuel listed a w
 | 0,_,_,_,h=>h
 | fuel+1,_,_,_,h=>⟨h.1,fun i hi=>wpOp_mono (fun a' w' h'=>zRv fuel _ a' w' h'.2) (h.2 i hi)⟩
def Bd(md:Region.Mode)(ops:Array Oper)(j i:Nat):Bool:=match ops[j]? with
 | some o=>o.after.any fun e=>Region.binds md e && e.on == i
 | none=>false
theorem yJv{i j:Nat}{listed:Array Bool}(hi:i∈Region.ready md ops listed)(hj:j∈Region.ready md ops listed):Bd md ops j i=false:=by
 obtain ⟨h0,_⟩:=mem_ready.1 hi;obtain ⟨_,o,ho,hall⟩:=mem_ready.1 hj
 cases hb:Bd md ops j i with
 | false=>rfl
 | true=>
  simp only [Bd,ho] at hb;obtain ⟨e,he,Kt⟩:=Array.any_eq_true'.1 hb;simp only [bT,beq_iff_eq] at Kt;have h1:=hall e he Kt.1;rw [Kt.2] at h1;have:i<listed.size:=by
   rcases dN i listed.size with h' | h'
   ·exact h'
   ·simp [Array.getElem?_eq_none h'] at h1
  simp [this] at h0 h1;rw [h0] at h1
  cases h1
theorem yAn{last i:Nat}{oi:Oper}{v:Value}(hi:ops[i]?=some oi)(Nn:∀ (j:Nat) (o:Oper) cs b,ops[j]?=some o->o.op≠.select cs b)
  (hl:(Bd md ops last i || decide (ops.size<=last))=true) (hQ:∀ c a w,Q (.panic c) (a.put oi.dst v) w->Q (.panic c) a w) :
  ∀ (fuel:Nat) (listed:Array Bool) (a:Act) (w:World),Region.free md ops listed i=true->i∈Region.ready md ops listed->yd P ops C oi v a->C w ->
   ny P md ops last C Q fuel (listed.setIfInBounds i true) (a.put oi.dst v) w->ny P md ops last C Q (fuel+1) listed a w:=by
 intro fuel
 induction fuel with
 | zero=>
  intro listed a w _ hr hy hC H;refine ⟨fun h=>(by rw [h] at hr;cases hr),fun j hj=>?_⟩;by_cases yz:j=i
  ·subst yz;exact hy.wpOp hi hC ⟨.inr hC,H⟩
  ·have:=ready_mono hj yz;rw [H.1] at this
   cases this
 | succ fuel ih=>
  intro listed a w hfree hr hy hC H;refine ⟨fun h=>(by rw [h] at hr;cases hr),fun j hj=>?_⟩;by_cases yz:j=i
  ·subst yz;exact hy.wpOp hi hC ⟨.inr hC,H⟩
  ·obtain ⟨OX,oj,Ny,hall⟩:=mem_ready.1 hj;have hnb:=yJv hr hj;have hne:j≠last:=fun e=>by
    subst e;rw [hnb,Bool.false_or] at hl;have h1:=of_decide_eq_true hl;have h2:=(aG.1 Ny).1;omega
   have hap:oi.apart ops oj=true:=Region.free_spec hi hfree j oj Ny yz OX (fun e he hb heq=>by
    have:Bd md ops j i=true:=by
     simp only [Bd,Ny];exact Array.any_eq_true'.2 ⟨e,he,by simp [hb,heq]⟩
    rw [this] at hnb;cases hnb)
   have IZ:Region.free md ops (listed.setIfInBounds j true) i=true:=by
    simp only [Region.free,hi,List.all_eq_true,bZ] at hfree ⊢;intro k hk;have h1:=hfree k hk;by_cases hjk:j=k
    ·subst hjk;have hlt:j<listed.size:=by
      rcases dN j listed.size with h' | h'
      ·exact h'
      ·simp [Array.getElem?_eq_none h'] at OX
     simp [hlt]
    ·rw [getD_set_ne true hjk];exact h1
   refine wpOp_mono (fun a' w' h3=>?_) (yMa Ny hap (fun cs b=>Nn i oi cs b hi) (fun cs b=>Nn j oj cs b Ny) hQ hy (H.2 j (ready_mono hj yz)));have hC':=h3.2.1.resolve_left hne;refine ⟨.inr hC',ih (listed.setIfInBounds j true) a' w' IZ (ready_mono hr (Ne.symm yz)) h3.1 hC' ?_⟩;rw [Array.setIfInBounds_comm _ _ yz];exact h3.2.2
theorem yEk(last i:Nat){oi:Oper}(v:Value){fuel:Nat}{listed:Array Bool}{a:Act}{w:World}(hi:ops[i]?=some oi)
  (hs:Region.noSelect ops=true) (hl:(Bd md ops last i || decide (ops.size<=last))=true) (hf:Region.free md ops listed i=true) (hr:(Region.ready md ops listed).contains i=true)
  (hQ:∀ c a w,Q (.panic c) (a.put oi.dst v) w->Q (.panic c) a w) (hC:C w) (hy:yd P ops C oi v a)
  (h:ny P md ops last C Q fuel (listed.setIfInBounds i true) (a.put oi.dst v) w):ny P md ops last C Q (fuel+1) listed a w:=
 yAn hi (Region.noSelect_spec hs) hl hQ fuel listed a w hf (by simpa using hr) hy hC h
theorem yEl(last i:Nat){oi:Oper}{fuel:Nat}{listed:Array Bool}{a:Act}{w:World}(hi:ops[i]?=some oi)(hr:Region.ready md ops listed=[i])
  (hw:Region.wanted oi (yielded ops a.tmps)=true) {v:Value} {w':World} (hrun:(execOp a.eval oi).run P w=.ok (.value v) w') (hC:C w')
  (h:ny P md ops last C Q fuel (listed.setIfInBounds i true) (a.put oi.dst v) w'):ny P md ops last C Q (fuel+1) listed a w:=by
 refine ⟨fun h0=>(by rw [hr] at h0;cases h0),fun j hj=>?_⟩;rw [hr] at hj;simp only [bU] at hj;subst hj;unfold wpOp;simp only [hi,hw,if_true,Oper.wp,hrun,Oper.upon];exact .inl ⟨.inr hC,h⟩
theorem KG(i:Nat){oi:Oper}{fuel:Nat}{listed:Array Bool}{a:Act}{w:World}(hi:ops[i]?=some oi)(hr:Region.ready md ops listed=[i])
  (hw:Region.wanted oi (yielded ops a.tmps)=true) {w':World} (hrun:(execOp a.eval oi).run P w=.ok .skip w')
  (h:ny P md ops i C Q fuel (listed.setIfInBounds i true) (a.put oi.dst undef) w'):ny P md ops i C Q (fuel+1) listed a w:=by
 refine ⟨fun h0=>(by rw [hr] at h0;cases h0),fun j hj=>?_⟩;rw [hr] at hj;simp only [bU] at hj;subst hj;unfold wpOp;simp only [hi,hw,if_true,Oper.wp,hrun,Oper.upon];exact .inl ⟨.inl (by simp),h⟩
theorem yIv(last i j:Nat){fuel:Nat}{listed:Array Bool}{a:Act}{w:World}(hr:Region.ready md ops listed=[i,j])
  (h1:wpOp P ops Q i (fun a' w'=>(i=last\/C w')/\ny P md ops last C Q fuel (listed.setIfInBounds i true) a' w') a w)
  (h2:wpOp P ops Q j (fun a' w'=>(j=last\/C w')/\ny P md ops last C Q fuel (listed.setIfInBounds j true) a' w') a w):ny P md ops last C Q (fuel+1) listed a w:=by
 refine ⟨fun h0=>(by rw [hr] at h0;cases h0),fun k hk=>?_⟩;rw [hr] at hk;simp only [bV,List.not_mem_nil,or_false] at hk;rcases hk with rfl | rfl
 ·exact h1
 ·exact h2
theorem yLz{i:Nat}{oi:Oper}{a:Act}{w:World}{K:Act->World->Prop}(hi:ops[i]?=some oi)(hw:Region.wanted oi (yielded ops a.tmps)=true){v:Value}{w':World}(hrun:(execOp a.eval oi).run P w=.ok (.value v) w')(h:K (a.put oi.dst v) w'):wpOp P ops Q i K a w:=by
 unfold wpOp;simp only [hi,hw,if_true,Oper.wp,hrun,Oper.upon];exact .inl h
theorem yEm(last i:Nat){oi:Oper}{fuel:Nat}{listed:Array Bool}{a:Act}{w:World}(hi:ops[i]?=some oi)(hr:Region.ready md ops listed=[i])
  (hw:Region.wanted oi (yielded ops a.tmps)=true) {f:Nat} {args:Array Value} (hrun:(execOp a.eval oi).run P w=.ok (.enter f args) w)
  (h:Calls P f args w fun e w'=>∃ v,e=.returned v/\C w'/\ny P md ops last C Q fuel (listed.setIfInBounds i true) (a.put oi.dst v) w'):ny P md ops last C Q (fuel+1) listed a w:=by
 refine ⟨fun h0=>(by rw [hr] at h0;cases h0),fun j hj=>?_⟩;rw [hr] at hj;simp only [bU] at hj;subst hj;unfold wpOp;simp only [hi,hw,if_true,Oper.wp,hrun,Oper.upon];refine .inl (Calls.mono h ?_);rintro e w' ⟨v,rfl,hC,h'⟩;exact ⟨.inr hC,h'⟩
theorem zAd(last i d:Nat){oi:Oper}(v:Value){fuel:Nat}{listed:Array Bool}{a:Act}{w:World}(hi:ops[i]?=some oi)(hd:oi.dst=some d)
  (hs:Region.noSelect ops=true) (hl:(Bd md ops last i || decide (ops.size<=last))=true) (hf:Region.free md ops listed i=true) (hr:(Region.ready md ops listed).contains i=true)
  (hQ:∀ c a w,Q (.panic c) (a.put (some d) v) w->Q (.panic c) a w) (hC:C w) (hy:yd P ops C oi v a)
  (h:ny P md ops last C Q fuel (listed.setIfInBounds i true) (a.put (some d) v) w):ny P md ops last C Q (fuel+1) listed a w:=by
 rw [<-hd] at hQ h;exact yEk last i v hi hs hl hf hr hQ hC hy h
theorem fT(last i d:Nat){oi:Oper}(v:Value){fuel:Nat}{listed:Array Bool}{a:Act}{w:World}(hi:ops[i]?=some oi)(hd:oi.dst=some d)
     
  (hQ:∀ c a w,Q (.panic c) (a.put (some d) v) w->Q (.panic c) a w) (hC:C w) (hy:yd P ops C oi v a)
  (h:ny P md ops last C Q fuel (listed.setIfInBounds i true) (a.put (some d) v) w)(hs:Region.noSelect ops=true:=by kernel_rfl)(hl:(Bd md ops last i || decide (ops.size<=last))=true:=by kernel_rfl)(hf:Region.free md ops listed i=true:=by kernel_rfl)(hr:(Region.ready md ops listed).contains i=true:=by kernel_rfl):ny P md ops last C Q (fuel+1) listed a w:=zAd last i d v hi hd hs hl hf hr hQ hC hy h
theorem jW(last i d:Nat){oi:Oper}{fuel:Nat}{listed:Array Bool}{a:Act}{w:World}(hi:ops[i]?=some oi)(hd:oi.dst=some d)(hr:Region.ready md ops listed=[i])
  (hw:Region.wanted oi (yielded ops a.tmps)=true) {v:Value} {w':World} (hrun:(execOp a.eval oi).run P w=.ok (.value v) w') (hC:C w')
  (h:ny P md ops last C Q fuel (listed.setIfInBounds i true) (a.put (some d) v) w'):ny P md ops last C Q (fuel+1) listed a w:=by
 rw [<-hd] at h;exact yEl last i hi hr hw hrun hC h
theorem zWd{i:Nat}(d:Nat){oi:Oper}{a:Act}{w:World}{K:Act->World->Prop}(hi:ops[i]?=some oi)(hd:oi.dst=some d)(hw:Region.wanted oi (yielded ops a.tmps)=true){v:Value}{w':World}(hrun:(execOp a.eval oi).run P w=.ok (.value v) w')(h:K (a.put (some d) v) w'):wpOp P ops Q i K a w:=by
 rw [<-hd] at h;exact yLz hi hw hrun h
theorem GY(last i d:Nat){oi:Oper}{fuel:Nat}{listed:Array Bool}{a:Act}{w:World}(hi:ops[i]?=some oi)(hd:oi.dst=some d)(hr:Region.ready md ops listed=[i])
  (hw:Region.wanted oi (yielded ops a.tmps)=true) {f:Nat} {args:Array Value} (hrun:(execOp a.eval oi).run P w=.ok (.enter f args) w)
  (h:Calls P f args w fun e w'=>∃ v,e=.returned v/\C w'/\ny P md ops last C Q fuel (listed.setIfInBounds i true) (a.put (some d) v) w'):ny P md ops last C Q (fuel+1) listed a w:=by
 rw [<-hd] at h;exact yEm last i hi hr hw hrun h
theorem Re(last i di j dj:Nat){oi oj:Oper}{fuel:Nat}{listed:Array Bool}{a:Act}{w:World}(hi:ops[i]?=some oi)(hdi:oi.dst=some di)(hj:ops[j]?=some oj)(hdj:oj.dst=some dj)(hr:Region.ready md ops listed=[i,j])
  (xj:Region.wanted oi (yielded ops a.tmps)=true) (Kf:Region.wanted oj (yielded ops a.tmps)=true) {vi vj:Value} {wi wj:World} (Nq:(execOp a.eval oi).run P w=.ok (.value vi) wi) (hCi:C wi) (Np:(execOp a.eval oj).run P w=.ok (.value vj) wj) (hCj:C wj)
  (h1:ny P md ops last C Q fuel (listed.setIfInBounds i true) (a.put (some di) vi) wi) (h2:ny P md ops last C Q fuel (listed.setIfInBounds j true) (a.put (some dj) vj) wj):ny P md ops last C Q (fuel+1) listed a w:=
 yIv last i j hr (zWd di hi hdi xj Nq ⟨.inr hCi,h1⟩) (zWd dj hj hdj Kf Np ⟨.inr hCj,h2⟩)
theorem EZ(last:Nat)(C:World->Prop){id:Nat}{a:Act}{w:World}(hm:P.follows .mixedOrders=true)
  (h:ny P .any ops last C Q ops.size (Array.replicate ops.size false) a { w with drawn:=w.drawn+1 }):(Code.region id ops true).wp P Q a w:=
 wp_region_any hm (zRv _ _ _ _ h)
end
end Go.Proofs.YtmaiggbnceejiaaGreatDoor
