import Derived.Test.YtmaiggbnceejiaaGreatDoorS07
import Derived.Test.YtmaiggbnceejiaaGreatDoorS11
import Derived.Lib.SliceRun
set_option linter.unusedVariables false
set_option maxRecDepth 100000
set_option maxHeartbeats 16000000
namespace Go.Proofs.YtmaiggbnceejiaaGreatDoor
open Go.RowKit Go.Lib Go.Maps
inductive Tag where
 | no | main | net | tab | dead | fi | gW
 | line (b:Nat) | node (b:Nat) | tx (b:Nat)
 deriving DecidableEq
structure dY where
 lv:Value
 dr:Nat
 wv:Value
 mr:Option Nat
 tv:Value
 gF:List Nat
 rR:Nat->Value
 fL:Nat->List Nat
 kK:Nat->Value
 kL:Nat->Value
 jo:List Nat
 jQ:Nat->Value
 jq:Nat->Value
 q:iP
 own:Nat->Tag
def dY.lo(y:dY)(n:Nat):Lo:=⟨n,fun k=>∃ t∈y.jo,(y.jq t).ownBlock=some k⟩
def dY.ext(y:dY):Ext:=⟨y.lv,.map (some y.dr),.map y.q.m,y.tv⟩
def jC(b:Nat):Value:=.pointer (some ⟨b,0,none⟩)
def KA(y:dY)(lost:Int):List Value:=[y.lv,.map (some y.dr),y.wv,.int .i64 lost,.map y.mr,.map y.q.m,y.tv]
def xG(w:World)(n:Nat)(y:dY)(b:Nat)(s:eK):Prop:=fe w (y.lo n) b (y.kK b) (y.kL b) s
structure zN(w:World)(n:Nat)(y:dY)(b:Nat)(l:jG):Prop where
 blk:dg w b [y.rR b,.int .i64 l.heard] 120
 row:w.ownsRow n 91 1 (y.rR b) (y.fL b).length ((y.fL b).map jC)
 len:(y.fL b).length=l.nodes.length
 node:∀ (j c:Nat) s,(y.fL b)[j]?=some c->l.nodes[j]?=some s->xG w n y c s
structure th(w:World)(n:Nat)(y:dY)(b:Nat)(t:jR):Prop where
 blk:dg w b [.int .i64 t.state,y.jQ b,y.jq b,.int .i64 t.time] 86
 ats:w.ownsRow n 3 1 (y.jQ b) t.ats.length (t.ats.map (Value.int .i64))
 wr:w.ownsRow n 68 3 (y.jq b) t.writes.length (t.writes.flatMap oE)
structure tp(w:World)(L:Lo)(wv:Value)(mr:Option Nat)(s:fC):Prop where
 row:eV w L wv s.way
 dn:pf w L mr s.down
 few:s.way.length<=200
 lo:0<=s.lost/\s.lost<=4611686018427387904
structure tj(w:World)(n N:Nat)(q:iP)(s:fy):Prop where
 map:qK w n q.m q.n q.hd s
 hdr:∀ k i,gA k->rM (q.hd k i)
 rows:∀ k i,gA k->ez w n (q.hd k i) ((s k).list i)
 apart:∀ k k' i i' x,gA k->gA k'->(q.hd k i).ownBlock=some x->(q.hd k' i').ownBlock=some x->k=k'/\i=i'
 ok:∀ k,gA k->mu (s k)
 few:∀ k,gA k->(s k).held.length+(s k).waits.length<=N
structure yM(w:World)(n g:Nat)(y:dY):Prop where
 main:y.own g=.main
 fi:∀ k,y.lv.ownBlock=some k->y.own k=.fi
 gW:∀ k,y.tv.ownBlock=some k->y.own k=.gW
 net:∀ k,y.wv.ownBlock=some k\/y.mr=some k->y.own k=.net
 dead:y.own y.dr=.dead
 tab:∀ k,y.q.own k->y.own k=.tab
 line:∀ b∈y.gF,y.own b=.line b/\∀ k,(y.rR b).ownBlock=some k->y.own k=.line b
 node:∀ b∈y.gF,∀ c∈y.fL b,∀ k,gw c (y.kK c) (y.kL c) k->y.own k=.node c
 tx:∀ b∈y.jo,y.own b=.tx b/\∀ k,(y.jQ b).ownBlock=some k\/(y.jq b).ownBlock=some k->y.own k=.tx b
 lt:∀ k,y.own k≠.no->n<=k/\k<w.heap.size
 Bv:y.gF.Nodup
 Eo:y.jo.Nodup
 yu:(y.gF.flatMap y.fL).Nodup
structure dx(w:World)(n c g:Nat)(y:dY)(s:dX):Prop where
 blk:dg w g (KA y s.net.lost) 84
 net:tp w (y.lo n) y.wv y.mr s.net
 dead:pf w n (some y.dr) s.dead
 tab:tj w n 120 y.q s.keys
 qn:y.q.b=g/\y.q.t=84/\y.q.n<=c
 fi:w.ownsRow n 102 1 y.lv y.gF.length (y.gF.map jC)
 iQ:y.gF.length=s.lines.length
 line:∀ (k b:Nat) l,y.gF[k]?=some b->s.lines[k]?=some l->zN w n y b l
 gW:w.ownsRow n 87 1 y.tv y.jo.length (y.jo.map jC)
 kN:y.jo.length=s.dW.length
 tx:∀ (i b:Nat) t,y.jo[i]?=some b->s.dW[i]?=some t->th w n y b t
 own:yM w n g y
theorem VJ{w:World}{n g:Nat}{y:dY}(h:yM w n g y):∀ k,(y.lo n).x k->k<w.heap.size:=fun k ⟨t,ht,hk⟩=>(h.lt k (by rw [(h.tx t ht).2 k (.inr hk)];simp)).2
theorem zN.mod{G:Nat->Prop}{w w':World}{n:Nat}{y:dY}{b:Nat}{l:jG}(h:zN w n y b l)(hm:Mod G w w')(hq:Qm w (y.lo n) G)(hb:¬ G b)(hr:∀ k,(y.rR b).ownBlock=some k->¬ G k)(hn:∀ c∈y.fL b,∀ k,gw c (y.kK c) (y.kL c) k->¬ G k):zN w' n y b l:=
 ⟨h.blk.mod hm hb,fm h.row hm (fun k _ _ e=>hr k e),h.len,fun j c s hc hs=>(h.node j c s hc hs).mod hm hq (fun k hk=>hn c (aC hc) k hk)⟩
theorem th.mod{G:Nat->Prop}{w w':World}{n:Nat}{y:dY}{b:Nat}{t:jR}(h:th w n y b t)(hm:Mod G w w')(hb:¬ G b)(hr:∀ k,(y.jQ b).ownBlock=some k\/(y.jq b).ownBlock=some k->¬ G k):th w' n y b t:=
 ⟨h.blk.mod hm hb,fm h.ats hm (fun k _ _ e=>hr k (.inl e)),fm h.wr hm (fun k _ _ e=>hr k (.inr e))⟩
theorem tp.mod{G:Nat->Prop}{w w':World}{L:Lo}{wv:Value}{mr:Option Nat}{s:fC}(h:tp w L wv mr s)(hm:Mod G w w')(hq:Qm w L G)(hG:∀ k,wv.ownBlock=some k\/mr=some k->¬ G k):tp w' L wv mr s:=
 ⟨h.row.mod hm hq (fun k hk=>hG k (.inl hk)),h.dn.mod hm (fun k hk=>hG k (.inr hk)),h.few,h.lo⟩
theorem tj.toP{w:World}{n N:Nat}{q:iP}{s:fy}(h:tj w n N q s)(hb:dg w q.b (q.pre++.map q.m :: q.post) q.t)(ht:q.t≠170):oZ w n N q s:=
 ⟨hb,ht,h.map,h.hdr,fun k i hk _=>h.rows k i hk,h.apart,h.ok,h.few⟩
theorem tj.mod{G:Nat->Prop}{w w':World}{n N:Nat}{q:iP}{s:fy}(h:tj w n N q s)(hm:Mod G w w')(hG:∀ x,q.own x->¬ G x):tj w' n N q s:=by
 refine ⟨?_,h.hdr,fun k i hk=>fm (h.rows k i hk) hm (fun x _ _ e=>hG x (.inr ⟨k,i,hk,e⟩)),h.apart,h.ok,h.few⟩;have hmm:=h.map;unfold qK at hmm ⊢
 cases hq:q.m with
 | none=>rw [hq] at hmm;exact hmm
 | some x=>
  rw [hq] at hmm;obtain ⟨h1,D,⟨es,clock,h2,h3⟩,h4⟩:=hmm;refine ⟨h1,D,⟨es,clock,?_,h3⟩,h4⟩;exact (hm.block x (aG.1 h2).1 (hG x (.inl hq))).trans h2
theorem dx.quiet{w w':World}{n c g:Nat}{y:dY}{s:dX}(h:dx w n c g y s)(hm:Mod dZ w w'):dx w' n c g y s:=
 ⟨h.blk.mod hm id,h.net.mod hm (Qm.none _ _) (fun _ _=>id),h.dead.mod hm (fun _ _=>id),h.tab.mod hm (fun _ _=>id),h.qn,fm h.fi hm (fun _ _ _ _=>id),h.iQ,fun k b l hb hl=>(h.line k b l hb hl).mod hm (Qm.none _ _) id (fun _ _=>id) (fun _ _ _ _=>id),
  fm h.gW hm (fun _ _ _ _=>id),h.kN,fun i b t hb ht=>(h.tx i b t hb ht).mod hm id (fun _ _=>id),{ h.own with lt:=fun k hk=>⟨(h.own.lt k hk).1,aH (h.own.lt k hk).2 hm.size⟩ }⟩
structure iG(w:World)(y:dY)(w':World)(y':dY):Prop where
 md:Mod (fun k=>y.own k≠.no) w w'
 old:∀ k,k<w.heap.size->y'.own k=y.own k
theorem iG.refl(w:World)(y:dY):iG w y w y:=⟨Mod.refl _ _,fun _ _=>rfl⟩
theorem iG.quiet{w w':World}{y:dY}(hm:Mod dZ w w'):iG w y w' y:=⟨hm.mono (fun _ _ e=>e.elim),fun _ _=>rfl⟩
theorem iG.trans{w w1 w2:World}{y y1 y2:dY}(h:iG w y w1 y1)(k:iG w1 y1 w2 y2):iG w y w2 y2:=
 ⟨h.md.trans' k.md (fun i hi e=>by rw [<-h.old i hi];exact e),fun i hi=>by rw [k.old i (aH hi h.md.size),h.old i hi]⟩
theorem iG.size{w w':World}{y y':dY}(h:iG w y w' y'):w.heap.size<=w'.heap.size:=h.md.size
theorem iG.blk{w w':World}{y y':dY}(h:iG w y w' y'){b:Nat}{cs:List Value}{t:TypeId}(hb:dg w b cs t)(hn:y.own b=.no):dg w' b cs t:=hb.mod h.md (fun e=>e hn)
structure mO{α:Type}(f:Nat)(gT:Array Value)(arg:α->Value)(es:List α)(p:α->Bool)(C:World->Prop):Prop where
 enter:∀ (args:Array Value) (w:World),(callFunc f args).run Tryz.prog w=.ok (.enter f args) w
 keep:∀ w w',C w->Mod dZ w w'->C w'
 ask:∀ d∈es,∀ wr,C wr->Calls Tryz.prog f (#[arg d]++gT) wr fun e w'=>e=.returned (.bool (p d))/\Mod dZ wr w'
def iR(o:Option Nat):Int:=match o with | none=>-1 | some k=>k
theorem Jl{α:Type}(p:α->Bool):∀ (ms:List α) (k:Nat),(∀ i m,i<k->ms[i]?=some m->p m=false)->∀ m,ms[k]?=some m->p m=true->ms.findIdx? p=some k
 | [],_,_,m,h,_=>by simp at h
 | m' :: ms,0,_,m,h,hs=>by simp at h;subst h;simp [List.findIdx?_cons,hs]
 | m' :: ms,k+1,hf,m,h,hs=>by
  have h0:=hf 0 m' (by omega) rfl;have:=Jl p ms k (fun i m hi hm=>hf (i+1) m (by omega) (by simpa using hm)) m (by simpa using h) hs;simp [List.findIdx?_cons,h0,this]
theorem Jv{α:Type}(p:α->Bool):∀ (ms:List α),(∀ (i:Nat) m,ms[i]?=some m->p m=false)->ms.findIdx? p=none
 | [],_=>rfl
 | m :: ms,h=>by
  have h0:=h 0 m rfl;simp [List.findIdx?_cons,h0,Jv p ms (fun i m hm=>h (i+1) m (by simpa using hm))]
theorem TI{α:Type}(p:α->Bool):∀ (ms:List α),decide (iR (ms.findIdx? p) ≥ 0)=ms.any p
 | []=>rfl
 | m :: ms=>by
  have ih:=TI p ms;by_cases h:p m=true
  ·simp [List.findIdx?_cons,h,iR]
  ·have h':p m=false:=by simpa using h
   rw [List.any_cons,h',Bool.false_or,<-ih,bu,aK h]
   cases ms.findIdx? p with
   | none=>rfl
   | some k=>simp [iR];omega
def Rq(d:Nat)(l:List Value):Prop:=l=[.pointer (some ⟨d,0,none⟩)]
theorem zUi(f L:Nat)(gT:Array Value)(p:Nat->Bool)(v:Value)(ms:List Nat)(w:World)(C:World->Prop)(hv:fV w L 1 Rq v ms)(hA:mO f gT (fun d=>.pointer (some ⟨d,0,none⟩)) ms p C)(hC:C w)(hf:ms.length<=1000000) :
  Calls Tryz.prog 96 #[v,.func (.func f) #[] gT] w fun e w'=>e=.returned (.int .i64 (iR (ms.findIdx? p)))/\Mod dZ w w':=by
 have HV:=dV hv;obtain ⟨a,cap,rfl,hc1,hc2⟩:=fV.slice hv;have HA:=dV hA;have EF:=dV hC;have hen:=hA.enter;clear hv hA hC;go_enter Tryz.func96,Tryz.ntmps96;go_wp2_with fail;go_loopw [8] (fun i wr=>∃ k:Nat,k<=ms.length/\i=.int .i64 k/\(∀ i m,i<k->ms[i]?=some m->p m=false)/\Mod dZ w wr) (fun i _=>ms.length - (intOf i).toNat)
 case atStart=>exact ⟨0,aT _,rfl,fun i m h=>by omega,Mod.refl _ _⟩
 case round=>
  obtain ⟨k,hk,rfl,hno,hM⟩:=hrel;have kS:=dV hno;have HM:=dV hM;clear hno hM;by_cases hlt:k<ms.length
  ·obtain ⟨m,hm⟩:∃ m,ms[k]?=some m:=⟨_,aA hlt⟩;obtain ⟨b,off,l,rfl,_,hl,_,hcl⟩:=fV.at HV.out hm;unfold Rq at hl;subst hl;have p0:=HM.out.cell (hcl 0 _ rfl) id;simp only [bG,cZ] at p0;have HC:=dV (HA.out.ask m (aC hm) wr (HA.out.keep _ _ EF.out HM.out));have km:=dV hm;have jd:(k:Int)<(ms.length:Int):=by omega
   have lJ:(0:Int)<=(k:Int):=by omega
   clear hm hcl;go_wp2_with fail;refine HC.out.mono ?_;rintro e w5 ⟨rfl,eP⟩;have kv:=dV (HM.out.trans eP);clear HC eP
   cases hs:p m with
   | true=>
    have HF:=dV (Jl p ms k kS.out m km.out hs);go_wp2_with fail;go_ret;exact ⟨by rw [HF.out];rfl,kv.out⟩
   | false=>
    go_wp2_with fail;go_roundw
    case rel=>
     refine ⟨k+1,by omega,by go_num,fun i m' hi' hm'=>?_,kv.out⟩;by_cases hik:i<k
     ·exact kS.out i m' hik hm'
     ·obtain rfl:i=k:=by omega
      rw [km.out] at hm';cases hm';exact hs
    case measure=>simp [intOf];omega
  ·have HF:=dV (Jv p ms (fun i m hm=>kS.out i m (by have:=(aB.1 hm).1;omega) hm));go_wp2_with fail;go_ret;exact ⟨by rw [HF.out];rfl,HM.out⟩
def Ca(d:fQ)(l:List Value):Prop:=l=[.string d.key,.string d.val,.bool d.gone]
theorem zUh(f L:Nat)(gT:Array Value)(p:fQ->Bool)(v:Value)(ms:List fQ)(w:World)(C:World->Prop)(hv:fV w L 3 Ca v ms)(hA:mO f gT (fun d=>.agg #[.string d.key,.string d.val,.bool d.gone]) ms p C)(hC:C w)(hf:ms.length<=1000000) :
  Calls Tryz.prog 132 #[v,.func (.func f) #[] gT] w fun e w'=>e=.returned (.int .i64 (iR (ms.findIdx? p)))/\Mod dZ w w':=by
 have HV:=dV hv;obtain ⟨a,cap,rfl,hc1,hc2⟩:=fV.slice hv;have HA:=dV hA;have EF:=dV hC;have hen:=hA.enter;clear hv hA hC;go_enter Tryz.func132,Tryz.ntmps132;go_wp2_with fail;go_loopw [8] (fun i wr=>∃ k:Nat,k<=ms.length/\i=.int .i64 k/\(∀ i m,i<k->ms[i]?=some m->p m=false)/\Mod dZ w wr) (fun i _=>ms.length - (intOf i).toNat)
 case atStart=>exact ⟨0,aT _,rfl,fun i m h=>by omega,Mod.refl _ _⟩
 case round=>
  obtain ⟨k,hk,rfl,hno,hM⟩:=hrel;have kS:=dV hno;have HM:=dV hM;clear hno hM;by_cases hlt:k<ms.length
  ·obtain ⟨m,hm⟩:∃ m,ms[k]?=some m:=⟨_,aA hlt⟩;obtain ⟨b,off,l,rfl,_,hl,_,hcl⟩:=fV.at HV.out hm;unfold Ca at hl;subst hl;have p0:=HM.out.cell (hcl 0 _ rfl) id;simp only [bG] at p0;have p1:=HM.out.cell (hcl 1 _ rfl) id;have p2:=HM.out.cell (hcl 2 _ rfl) id;have HC:=dV (HA.out.ask m (aC hm) wr (HA.out.keep _ _ EF.out HM.out));have km:=dV hm;have jd:(k:Int)<(ms.length:Int):=by omega
   have lJ:(0:Int)<=(k:Int):=by omega
   clear hm hcl;go_wp2_with fail;refine HC.out.mono ?_;rintro e w5 ⟨rfl,eP⟩;have kv:=dV (HM.out.trans eP);clear HC eP
   cases hs:p m with
   | true=>
    have HF:=dV (Jl p ms k kS.out m km.out hs);go_wp2_with fail;go_ret;exact ⟨by rw [HF.out];rfl,kv.out⟩
   | false=>
    go_wp2_with fail;go_roundw
    case rel=>
     refine ⟨k+1,by omega,by go_num,fun i m' hi' hm'=>?_,kv.out⟩;by_cases hik:i<k
     ·exact kS.out i m' hik hm'
     ·obtain rfl:i=k:=by omega
      rw [km.out] at hm';cases hm';exact hs
    case measure=>simp [intOf];omega
  ·have HF:=dV (Jv p ms (fun i m hm=>kS.out i m (by have:=(aB.1 hm).1;omega) hm));go_wp2_with fail;go_ret;exact ⟨by rw [HF.out];rfl,HM.out⟩
def Eg(d:(dv × Value))(l:List Value):Prop:=l=[.int .i64 d.1.kind,.int .i64 d.1.tx,.int .i64 d.1.time,d.2]
theorem yFv(f L:Nat)(gT:Array Value)(p:(dv × Value)->Bool)(v:Value)(ms:List (dv × Value))(w:World)(C:World->Prop)(hv:fV w L 4 Eg v ms)(hA:mO f gT (fun d=>.agg #[.int .i64 d.1.kind,.int .i64 d.1.tx,.int .i64 d.1.time,d.2]) ms p C)(hC:C w)(hf:ms.length<=1000000) :
  Calls Tryz.prog 126 #[v,.func (.func f) #[] gT] w fun e w'=>e=.returned (.int .i64 (iR (ms.findIdx? p)))/\Mod dZ w w':=by
 have HV:=dV hv;obtain ⟨a,cap,rfl,hc1,hc2⟩:=fV.slice hv;have HA:=dV hA;have EF:=dV hC;have hen:=hA.enter;clear hv hA hC;go_enter Tryz.func126,Tryz.ntmps126;go_wp2_with fail;go_loopw [8] (fun i wr=>∃ k:Nat,k<=ms.length/\i=.int .i64 k/\(∀ i m,i<k->ms[i]?=some m->p m=false)/\Mod dZ w wr) (fun i _=>ms.length - (intOf i).toNat)
 case atStart=>exact ⟨0,aT _,rfl,fun i m h=>by omega,Mod.refl _ _⟩
 case round=>
  obtain ⟨k,hk,rfl,hno,hM⟩:=hrel;have kS:=dV hno;have HM:=dV hM;clear hno hM;by_cases hlt:k<ms.length
  ·obtain ⟨m,hm⟩:∃ m,ms[k]?=some m:=⟨_,aA hlt⟩;obtain ⟨b,off,l,rfl,_,hl,_,hcl⟩:=fV.at HV.out hm;unfold Eg at hl;subst hl;have p0:=HM.out.cell (hcl 0 _ rfl) id;simp only [bG] at p0;have p1:=HM.out.cell (hcl 1 _ rfl) id;have p2:=HM.out.cell (hcl 2 _ rfl) id;have p3:=HM.out.cell (hcl 3 _ rfl) id;have HC:=dV (HA.out.ask m (aC hm) wr (HA.out.keep _ _ EF.out HM.out));have km:=dV hm;have jd:(k:Int)<(ms.length:Int):=by omega
   have lJ:(0:Int)<=(k:Int):=by omega
   clear hm hcl;go_wp2_with fail;refine HC.out.mono ?_;rintro e w5 ⟨rfl,eP⟩;have kv:=dV (HM.out.trans eP);clear HC eP
   cases hs:p m with
   | true=>
    have HF:=dV (Jl p ms k kS.out m km.out hs);go_wp2_with fail;go_ret;exact ⟨by rw [HF.out];rfl,kv.out⟩
   | false=>
    go_wp2_with fail;go_roundw
    case rel=>
     refine ⟨k+1,by omega,by go_num,fun i m' hi' hm'=>?_,kv.out⟩;by_cases hik:i<k
     ·exact kS.out i m' hik hm'
     ·obtain rfl:i=k:=by omega
      rw [km.out] at hm';cases hm';exact hs
    case measure=>simp [intOf];omega
  ·have HF:=dV (Jv p ms (fun i m hm=>kS.out i m (by have:=(aB.1 hm).1;omega) hm));go_wp2_with fail;go_ret;exact ⟨by rw [HF.out];rfl,HM.out⟩
def VK(d:ByteArray)(l:List Value):Prop:=l=[.string d]
theorem yFt(f L:Nat)(gT:Array Value)(p:ByteArray->Bool)(v:Value)(ms:List ByteArray)(w:World)(C:World->Prop)(hv:fV w L 1 VK v ms)(hA:mO f gT (fun d=>.string d) ms p C)(hC:C w)(hf:ms.length<=1000000) :
  Calls Tryz.prog 119 #[v,.func (.func f) #[] gT] w fun e w'=>e=.returned (.int .i64 (iR (ms.findIdx? p)))/\Mod dZ w w':=by
 have HV:=dV hv;obtain ⟨a,cap,rfl,hc1,hc2⟩:=fV.slice hv;have HA:=dV hA;have EF:=dV hC;have hen:=hA.enter;clear hv hA hC;go_enter Tryz.func119,Tryz.ntmps119;go_wp2_with fail;go_loopw [8] (fun i wr=>∃ k:Nat,k<=ms.length/\i=.int .i64 k/\(∀ i m,i<k->ms[i]?=some m->p m=false)/\Mod dZ w wr) (fun i _=>ms.length - (intOf i).toNat)
 case atStart=>exact ⟨0,aT _,rfl,fun i m h=>by omega,Mod.refl _ _⟩
 case round=>
  obtain ⟨k,hk,rfl,hno,hM⟩:=hrel;have kS:=dV hno;have HM:=dV hM;clear hno hM;by_cases hlt:k<ms.length
  ·obtain ⟨m,hm⟩:∃ m,ms[k]?=some m:=⟨_,aA hlt⟩;obtain ⟨b,off,l,rfl,_,hl,_,hcl⟩:=fV.at HV.out hm;unfold VK at hl;subst hl;have p0:=HM.out.cell (hcl 0 _ rfl) id;simp only [bG,cZ] at p0;have HC:=dV (HA.out.ask m (aC hm) wr (HA.out.keep _ _ EF.out HM.out));have km:=dV hm;have jd:(k:Int)<(ms.length:Int):=by omega
   have lJ:(0:Int)<=(k:Int):=by omega
   clear hm hcl;go_wp2_with fail;refine HC.out.mono ?_;rintro e w5 ⟨rfl,eP⟩;have kv:=dV (HM.out.trans eP);clear HC eP
   cases hs:p m with
   | true=>
    have HF:=dV (Jl p ms k kS.out m km.out hs);go_wp2_with fail;go_ret;exact ⟨by rw [HF.out];rfl,kv.out⟩
   | false=>
    go_wp2_with fail;go_roundw
    case rel=>
     refine ⟨k+1,by omega,by go_num,fun i m' hi' hm'=>?_,kv.out⟩;by_cases hik:i<k
     ·exact kS.out i m' hik hm'
     ·obtain rfl:i=k:=by omega
      rw [km.out] at hm';cases hm';exact hs
    case measure=>simp [intOf];omega
  ·have HF:=dV (Jv p ms (fun i m hm=>kS.out i m (by have:=(aB.1 hm).1;omega) hm));go_wp2_with fail;go_ret;exact ⟨by rw [HF.out];rfl,HM.out⟩
def KR(d:Int)(l:List Value):Prop:=l=[.int .i64 d]
theorem yFu(f L:Nat)(gT:Array Value)(p:Int->Bool)(v:Value)(ms:List Int)(w:World)(C:World->Prop)(hv:fV w L 1 KR v ms)(hA:mO f gT (fun d=>.int .i64 d) ms p C)(hC:C w)(hf:ms.length<=1000000) :
  Calls Tryz.prog 134 #[v,.func (.func f) #[] gT] w fun e w'=>e=.returned (.int .i64 (iR (ms.findIdx? p)))/\Mod dZ w w':=by
 have HV:=dV hv;obtain ⟨a,cap,rfl,hc1,hc2⟩:=fV.slice hv;have HA:=dV hA;have EF:=dV hC;have hen:=hA.enter;clear hv hA hC;go_enter Tryz.func134,Tryz.ntmps134;go_wp2_with fail;go_loopw [8] (fun i wr=>∃ k:Nat,k<=ms.length/\i=.int .i64 k/\(∀ i m,i<k->ms[i]?=some m->p m=false)/\Mod dZ w wr) (fun i _=>ms.length - (intOf i).toNat)
 case atStart=>exact ⟨0,aT _,rfl,fun i m h=>by omega,Mod.refl _ _⟩
 case round=>
  obtain ⟨k,hk,rfl,hno,hM⟩:=hrel;have kS:=dV hno;have HM:=dV hM;clear hno hM;by_cases hlt:k<ms.length
  ·obtain ⟨m,hm⟩:∃ m,ms[k]?=some m:=⟨_,aA hlt⟩;obtain ⟨b,off,l,rfl,_,hl,_,hcl⟩:=fV.at HV.out hm;unfold KR at hl;subst hl;have p0:=HM.out.cell (hcl 0 _ rfl) id;simp only [bG,cZ] at p0;have HC:=dV (HA.out.ask m (aC hm) wr (HA.out.keep _ _ EF.out HM.out));have km:=dV hm;have jd:(k:Int)<(ms.length:Int):=by omega
   have lJ:(0:Int)<=(k:Int):=by omega
   clear hm hcl;go_wp2_with fail;refine HC.out.mono ?_;rintro e w5 ⟨rfl,eP⟩;have kv:=dV (HM.out.trans eP);clear HC eP
   cases hs:p m with
   | true=>
    have HF:=dV (Jl p ms k kS.out m km.out hs);go_wp2_with fail;go_ret;exact ⟨by rw [HF.out];rfl,kv.out⟩
   | false=>
    go_wp2_with fail;go_roundw
    case rel=>
     refine ⟨k+1,by omega,by go_num,fun i m' hi' hm'=>?_,kv.out⟩;by_cases hik:i<k
     ·exact kS.out i m' hik hm'
     ·obtain rfl:i=k:=by omega
      rw [km.out] at hm';cases hm';exact hs
    case measure=>simp [intOf];omega
  ·have HF:=dV (Jv p ms (fun i m hm=>kS.out i m (by have:=(aB.1 hm).1;omega) hm));go_wp2_with fail;go_ret;exact ⟨by rw [HF.out];rfl,HM.out⟩
theorem zVv(f L:Nat)(gT:Array Value)(p:ByteArray->Bool)(v:Value)(ms:List ByteArray)(w:World)(C:World->Prop)(hv:fV w L 1 VK v ms)(hA:mO f gT (fun d=>.string d) ms p C)(hC:C w)(hf:ms.length<=1000000) :
  Calls Tryz.prog 73 #[v,.func (.func f) #[] gT] w fun e w'=>e=.returned (.bool (ms.any p))/\Mod dZ w w':=by
 have HI:=dV (yFt f L gT p v ms w C hv hA hC hf);obtain ⟨a,cap,rfl,hc1,hc2⟩:=fV.slice hv;have GB:=dV (TI p ms);clear hv hA;go_enter Tryz.func73,Tryz.ntmps73;go_wp2_with fail;refine HI.out.mono ?_;rintro e w1 ⟨rfl,hm⟩;go_wp2_with fail;go_ret;exact ⟨by rw [<-GB.out];rfl,hm⟩
theorem zVw(f L:Nat)(gT:Array Value)(p:Int->Bool)(v:Value)(ms:List Int)(w:World)(C:World->Prop)(hv:fV w L 1 KR v ms)(hA:mO f gT (fun d=>.int .i64 d) ms p C)(hC:C w)(hf:ms.length<=1000000) :
  Calls Tryz.prog 93 #[v,.func (.func f) #[] gT] w fun e w'=>e=.returned (.bool (ms.any p))/\Mod dZ w w':=by
 have HI:=dV (yFu f L gT p v ms w C hv hA hC hf);obtain ⟨a,cap,rfl,hc1,hc2⟩:=fV.slice hv;have GB:=dV (TI p ms);clear hv hA;go_enter Tryz.func93,Tryz.ntmps93;go_wp2_with fail;refine HI.out.mono ?_;rintro e w1 ⟨rfl,hm⟩;go_wp2_with fail;go_ret;exact ⟨by rw [<-GB.out];rfl,hm⟩
end Go.Proofs.YtmaiggbnceejiaaGreatDoor
