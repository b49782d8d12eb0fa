import Derived.Test.YtmaiggbnceejiaaGreatDoorP40
import Derived.Test.YtmaiggbnceejiaaGreatDoorP25
import Derived.Test.YtmaiggbnceejiaaGreatDoorP09
import Derived.Test.YtmaiggbnceejiaaGreatDoorP02
import Derived.Maps.OwnSet
import Derived.Maps.AppendAt
import Derived.RegionTactic
import Derived.StringKeys
import Derived.Test.YtmaiggbnceejiaaGreatDoorP03
import Derived.Test.YtmaiggbnceejiaaGreatDoorP33
import Derived.Test.YtmaiggbnceejiaaGreatDoorP37
set_option linter.unusedVariables false
set_option maxRecDepth 100000
set_option maxHeartbeats 16000000
namespace Go.Proofs.YtmaiggbnceejiaaGreatDoor
open Go.RowKit Go.Lib Go.Maps
theorem zLk(s:zAa)(id:Int)(key:ByteArray)(mode:Int):(zBw s id key mode).1.lines=s.lines:=by
 unfold zBw
 simp only
 split
 ·have:=(zBj.wound (zCt (zAv s id key mode).1 id key) (zAv s id key mode).1).l
  exact this
 ·rfl
theorem yCr(s:zAa)(id:Int)(key:ByteArray)(mode:Int):(zBy s id key mode).1.lines=s.lines:=by
 unfold zBy
 simp only
 split
 ·exact zLk s id key mode
 ·split
  ·exact zLk s id key mode
  ·exact ((zBj.wound _ _).l).trans (zLk s id key mode)
theorem RowC.logV{w:World}{L:Lo}{v:Value}{cs:List CmdD}(h:RowC w L v cs)(hL:L.n<=w.heap.size):∃ us,LogV w w.heap.size v cs us/\∀ c∈cs,c.writes.length<=40:=by
 have h0:=h.toV
 obtain ⟨us,h1,h2,h3,h4⟩:=h
 refine ⟨us,⟨h1,?_,fun i c u hi hu=>?_⟩,fun c hc=>(h4 c hc).2⟩
 ·obtain ⟨us',⟨k1,k2⟩,k3⟩:=RowC.toV (L:=L) ⟨us,h1,h2,h3,h4⟩
  have hz:(cs.zip us).length=cs.length:=by rw [List.length_zip];omega
  rcases h2.2 with ⟨rfl,hn⟩ | ⟨g,cap,cur,rfl,q1,q2,q3,q4,q5,q6⟩
  ·have hc:cs=[]:=List.eq_nil_of_length_eq_zero hn
   subst hc
   exact SlR.nil _ _ _ _
  ·have hcl:=h2.cells (g:=g) rfl
   have hgl:g<w.heap.size:=(Array.getElem?_eq_some_iff.1 q2).1
   refine ⟨_,cap,by rw [hz],by rw [hz];exact q3,q4,.inr ⟨g,0,rfl,by omega,fun i d hi=>⟨zEh d.1 d.2,rfl,rfl,fun j x hx=>?_⟩⟩⟩
   obtain ⟨e1,e2⟩:=zWb hi
   have:=hcl _ _ (zHw cs us i d.1 d.2 h1 e1 e2 j x hx)
   rw [Go.WideShapes.add_plain,Nat.zero_add] at this
   rw [Nat.zero_add]
   exact this
 ·obtain ⟨a,cap,e1,e2,e3,e4⟩:=h3 i c u hi hu
  refine ⟨a,cap,e1,e2,e3,?_⟩
  rcases e4 with e4 | ⟨b,off,e5,e6,e7⟩
  ·exact .inl e4
  ·refine .inr ⟨b,off,e5,?_,fun j p hp=>⟨[.string p.key,.string p.val,.bool p.gone],rfl,rfl,fun k x hx=>?_⟩⟩
   ·rcases e6 with e6 | ⟨⟨cur,fr,e6⟩,_⟩
    ·omega
    ·exact (Array.getElem?_eq_some_iff.1 e6).1
   ·obtain ⟨f0,f1,f2⟩:=e7 j p hp
    match k,hx with
    | 0,hx=>simp at hx;subst hx;exact f0
    | 1,hx=>simp at hx;subst hx;exact f1
    | 2,hx=>simp at hx;subst hx;exact f2
    | (k+3),hx=>simp at hx
def headLog(s:zAa)(key:ByteArray):List CmdD:=((s.line (zBg s key)).nodes.getD 0 ⟨0,0,[],[],0⟩).log
def GetP(w:World)(n c g:Nat)(y:HLay)(r:zAa × ByteArray × Bool × Int)(e:Ending)(w':World):Prop:=e=.returned (.tuple #[.string r.2.1,.bool r.2.2.1,errQ r.2.2.2])/\∃ y',zAd w' n c g y' r.1/\zAn w y w' y'
theorem yKw(n c g:Nat)(y:HLay)(s:zAa)(id:Int)(key:ByteArray)(w:World)(h:zAd w n c g y s)(hok:yBm w n c s)(hk:okQ key)(hlg:(headLog s key).length<=1000/\∀ c∈headLog s key,c.kind=3->(zDn (headLog s key) 2 c.tx).isSome=true) :
  Calls Tryz.prog 14 #[.pointer (some ⟨g,0,none⟩),.int .i64 id,.string key] w (GetP w n (c+2) g y (getH s id key)):=by
 have hmk:=zMg
 have hcc:=hok.c
 have HCM:=Hmq (yFc n c g y s id key w h hok.sh hk)
 have HP1:Hid (getH s id key=if zIo s id key≠0 then (s,ByteArray.empty,false,zIo s id key) else if (zBy s id key 1).2≠0 then ((zBy s id key 1).1,ByteArray.empty,false,(zBy s id key 1).2) else ((zBy s id key 1).1,(zJu (((zBy s id key 1).1.tx id.toNat).writes.reverse++zBo (headLog s key)) key).1,(zJu (((zBy s id key 1).1.tx id.toNat).writes.reverse++zBo (headLog s key)) key).2,0)):=rfl
 have HH:=Hmq h
 have HOK:=Hmq hok
 have HLG:=Hmq hlg
 clear h hok hlg
 go_enter Tryz.func14,Tryz.ntmps14
 go_wp2_with fail
 refine HCM.out.mono ?_
 rintro e w2 ⟨hC,hm2⟩
 rcases hC with ⟨hc0,rfl⟩ | ⟨hc0,b,d,hb,hd,hlv,rfl⟩
 ·rw [zBb hc0]
  have HF:Hid (GetP w n (c+2) g y (getH s id key) (.returned (.tuple #[.string ⟨#[]⟩,.bool false,.iface 90 (.int .i64 (zIo s id key))])) w2):=by
   unfold Hid;rw [HP1.out,if_pos hc0];exact ⟨by rw [zBb hc0];rfl,y,(HH.out.quiet hm2).moreC (by omega),zAn.quiet hm2⟩
  clear hc0
  go_wp2_with fail
  go_ret3
  exact HF.out
 ·obtain ⟨ho,hk20,hhd⟩:=zBr hc0
  obtain ⟨i,rfl,hi1,hi2,hst⟩:=zDk ho
  have HP2:Hid (getH s i key=if (zBy s i key 1).2≠0 then ((zBy s i key 1).1,ByteArray.empty,false,(zBy s i key 1).2) else ((zBy s i key 1).1,(zJu (((zBy s i key 1).1.tx i).writes.reverse++zBo (headLog s key)) key).1,(zJu (((zBy s i key 1).1.tx i).writes.reverse++zBo (headLog s key)) key).2,0)):=by
   unfold Hid;rw [HP1.out,if_neg (fun q=>q hc0),Int.toNat_natCast]
  have hh2:=HH.out.quiet hm2
  have HLK:=Hmq (yAf n c g y s i key 1 w2 hh2 ⟨HOK.out.sh,HOK.out.ki,HOK.out.et.mod hm2,HOK.out.n,hcc⟩ hi1 hi2 hk20 (.inl rfl))
  have HM2:=Hmq hm2
  have HB:=Hmq hb
  have HD:=Hmq hd
  clear hc0 hb hd hlv HCM HP1 hm2 hh2 ho hhd
  go_wp2_with fail
  refine HLK.out.mono ?_
  rintro e w5 ⟨rfl,y5,hH5,hK5⟩
  have hKF:=(zAn.quiet HM2.out).trans hK5
  obtain ⟨hln,hlw⟩:=zSc s i key 1 HOK.out.sh.tw
  have htl:=HOK.out.sh.tl
  by_cases he:(zBy s i key 1).2=0
  ·rw [he,zAz]
   have hle:i<=(zBy s i key 1).1.txs.length:=by rw [hln];exact hi2
   obtain ⟨tb5,htb5,hT5⟩:=hH5.txQ (id:=i) hi1 hle
   have hwl5:=zIf hlw i
   have hb5:y5.lbs[zBg s key]?=some b:=by rw [hKF.l];exact HB.out
   have hd5:(y5.nbs b)[0]?=some d:=by rw [hKF.n];exact HD.out
   have hnd:=hH5.nodeB hb5 (List.mem_of_getElem? hd5)
   have hlog:(y5.st (zBy s i key 1).1 d).log=headLog s key:=by
    have hkl:zBg s key<(zBy s i key 1).1.lines.length:=by
     have:=(List.getElem?_eq_some_iff.1 hb5).1
     rw [hH5.llen] at this;exact this
    have hlp:=hH5.line _ _ _ hb5 (List.getElem?_eq_getElem hkl)
    have hnl:0<((zBy s i key 1).1.lines[zBg s key]).nodes.length:=by
     have:=(List.getElem?_eq_some_iff.1 hd5).1
     rw [hlp.len] at this;exact this
    rw [hH5.st_eq hb5 (List.getElem?_eq_getElem hkl) hd5 (List.getElem?_eq_getElem hnl)]
    unfold headLog zAa.line
    rw [<-yCr s i key 1]
    simp only [List.getD_eq_getElem?_getD,List.getElem?_eq_getElem hkl,List.getElem?_eq_getElem hnl,Option.getD_some]
   have HTX:=Hmq (zHo n (c+2) g y5 _ i tb5 w5 hH5 hi1 (by omega) htb5)
   have HNL:=Hmq (zOy (y5.lo n) d (y5.nnv d) (y5.nlv d) _ w5 hnd)
   rw [hlog] at HNL
   have HF:Hid (∀ w6 r,Mod zAb w5 w6->r=zJu (((zBy s i key 1).1.tx i).writes.reverse++zBo (headLog s key)) key->GetP w n (c+2) g y (getH s i key) (.returned (.tuple #[.string r.1,.bool r.2,.nilIface])) w6):=fun w6 r hm hr=>by
    subst hr
    rw [HP2.out,if_neg (fun q=>q he)];exact ⟨by rw [zAz],y5,hH5.quiet hm,hKF.trans (zAn.quiet hm)⟩
   have HT:=Hmq hT5
   have HLW:Hid (n<=w5.heap.size):=Nat.le_trans hH5.low (Nat.le_of_lt hH5.blk.lt)
   have hc2:=hT5.blk.cell 2 rfl
   clear hH5 hK5 hT5 htb5 hKF hln hlw he HLK hb5 hd5 hnd hlog hle
   go_wp2_with (first
    | (go_at_call 34;refine HTX.out.mono ?_;rintro e w6 ⟨rfl,rfl⟩)
    | (go_at_call 40;refine HNL.out.mono ?_;rintro e w6 ⟨lv,rfl,hr6,hf6,hm6⟩;obtain ⟨la,lc,hlv6⟩:=hr6.slice;subst hlv6))
   obtain ⟨us,hlv6,hw40⟩:=hr6.logV (Nat.le_trans HLW.out hm6.size)
   have HSE:=Hmq (yMx tb5 _ _ ((zBy s i key 1).1.tx i).writes (headLog s key) us key (by omega) HLG.out.1 (fun c hc h3=>by
    have:=HLG.out.2 c hc h3
    obtain ⟨j,hj⟩:=Option.isSome_iff_exists.1 this
    have hjl:j<(headLog s key).length:=by
     unfold zDn at hj
     exact (List.findIdx?_eq_some_iff_getElem.1 hj).1
    exact ⟨j,_,hj,List.getElem?_eq_getElem hjl,Nat.le_trans (hw40 _ (List.getElem_mem hjl)) (by omega)⟩) w6 (hm6.cell hc2 id) (HT.out.mod hm6 id (fun _ _ e=>e)).toV hlv6)
   obtain ⟨r,hr⟩:∃ z,z=zJu (((zBy s i key 1).1.tx i).writes.reverse++zBo (headLog s key)) key:=⟨_,rfl⟩
   rw [<-hr] at HSE
   have HG:=Hmq (fun w7 (hm7:Mod zAb w6 w7)=>HF.out w7 r (hm6.trans hm7) hr)
   clear hr hr6 hf6 hm6 hlv6 hw40 HF HT HLW hc2 HNL HTX
   refine HSE.out.mono ?_
   rintro e w7 ⟨rfl,hm7⟩
   have HG2:=Hmq (HG.out w7 hm7)
   clear HG hm7 HSE
   go_wp2_with fail
   go_ret3
   exact HG2.out
  ·rw [zBb he]
   have HF:Hid (GetP w n (c+2) g y (getH s i key) (.returned (.tuple #[.string ⟨#[]⟩,.bool false,.iface 90 (.int .i64 (zBy s i key 1).2)])) w5):=by
    unfold Hid;rw [HP2.out,if_pos he];exact ⟨by rw [zBb he];rfl,y5,hH5,hKF⟩
   clear hH5 hK5 hKF he HLK
   go_wp2_with fail
   go_ret3
   exact HF.out
structure OpD where
 kind:Int
 key:ByteArray
 value:ByteArray
 found:Bool
instance:Inhabited OpD:=⟨⟨0,ByteArray.empty,ByteArray.empty,false⟩⟩
structure TxD where
 ops:List OpD
 frm:Int
 til:Int
instance:Inhabited TxD:=⟨⟨[],0,0⟩⟩
def zPq(o:OpD):List Value:=[.int .i64 o.kind,.string o.key,.string o.value,.bool o.found]
def zHc:List OpD->List Value
 | []=>[]
 | o :: os=>zPq o++zHc os
theorem zKf:∀ os o,zHc (os++[o])=zHc os++zPq o
 | [],o=>by simp [zHc]
 | p :: os,o=>by simp [zHc,zKf os o]
def zNj(t:TxD)(v:Value):List Value:=[v,.int .i64 t.frm,.int .i64 t.til]
def zCs:List TxD->List Value->List Value
 | t :: ts,v :: vs=>zNj t v++zCs ts vs
 | _,_=>[]
theorem zNu:∀ (ts:List TxD) (vs:List Value) (t:TxD) (v:Value),vs.length=ts.length->zCs (ts++[t]) (vs++[v])=zCs ts vs++zNj t v
 | [],[],t,v,_=>by simp [zCs]
 | [],_ :: _,_,_,h=>by simp at h
 | _ :: _,[],_,_,h=>by simp at h
 | p :: ts,q :: vs,t,v,h=>by simp [zCs,zNu ts vs t v (by simpa using h)]
theorem zHs:∀ (ts:List TxD) (vs:List Value) (i:Nat) (t:TxD) (v:Value),vs.length=ts.length->ts[i]?=some t->vs[i]?=some v->∀ j x,(zNj t v)[j]?=some x->(zCs ts vs)[i*3+j]?=some x
 | [],_,_,_,_,_,h,_,_,_,_=>by simp at h
 | _ :: _,[],_,_,_,h,_,_,_,_,_=>by simp at h
 | p :: ts,q :: vs,0,t,v,_,h,h',j,x,hx=>by
  simp at h h'
  subst h h'
  have hj:j<(zNj p q).length:=(List.getElem?_eq_some_iff.1 hx).1
  rw [zCs,Nat.zero_mul,Nat.zero_add,List.getElem?_append_left hj]
  exact hx
 | p :: ts,q :: vs,i+1,t,v,hl,h,h',j,x,hx=>by
  have ih:=zHs ts vs i t v (by simpa using hl) (by simpa using h) (by simpa using h') j x hx
  have hl:(zNj p q).length=3:=rfl
  rw [zCs,List.getElem?_append_right (by omega),hl,show (i+1)*3+j - 3=i*3+j by omega]
  exact ih
def RowX(ty:TypeId)(w:World)(B:Nat)(v:Value)(ts:List TxD)(vs:List Value):Prop:=vs.length=ts.length/\w.ownsRow B ty 3 v ts.length (zCs ts vs)
theorem RowX.mod{ty:TypeId}{G:Nat->Prop}{w w':World}{B:Nat}{v:Value}{ts:List TxD}{vs:List Value}(h:RowX ty w B v ts vs)(hm:Mod G w w')(hG:∀ k,v.ownBlock=some k->¬ G k):RowX ty w' B v ts vs:=⟨h.1,zAm h.2 hm (fun k _ _ e=>hG k e)⟩
def zDw(a:Int)(n:Nat):Nat:=(IntKind.u64.wrap a % n).toNat
theorem zKc(a:Int)(n:Nat)(hn:0<n):zDw a n<n:=by
 have h1:=Int.emod_nonneg (IntKind.u64.wrap a) (show (n:Int)≠0 by omega)
 have h2:=Int.emod_lt_of_pos (IntKind.u64.wrap a) (show (0:Int)<n by omega)
 unfold zDw;omega
theorem retIQ{x y:Int}(h:x=y):Ending.returned (.int .i64 x)=Ending.returned (.int .i64 y):=by rw [h]
theorem zHh(a:Int)(n:Nat)(w:World)(hn:0<n)(hm:(n:Int)<=1000) :
  Calls Tryz.prog 18 #[.int .i64 a,.int .i64 n] w fun e w'=>e=.returned (.int .i64 (zDw a n))/\w'=w:=by
 have hw:IntKind.u64.wrap (n:Int)=n:=by rw [IntKind.wrap_u64];omega
 have h0:0<=IntKind.u64.wrap a:=by rw [IntKind.wrap_u64];omega
 have hnz:((n:Int) == 0)=false:=by rw [beq_eq_false_iff_ne];omega
 have hk:wrap64 (IntKind.u64.wrap a % n)=(zDw a n:Nat):=by
  have h1:=Int.emod_nonneg (IntKind.u64.wrap a) (show (n:Int)≠0 by omega)
  have h2:=Int.emod_lt_of_pos (IntKind.u64.wrap a) (show (0:Int)<n by omega)
  unfold zDw
  rw [IntWalk.wrap64_in _ ⟨by omega,by omega⟩];omega
 go_enter Tryz.func18,Tryz.ntmps18
 go_wp2_with fail
 go_ret
 first
  | exact ⟨rfl,rfl⟩
  | (refine ⟨?_,rfl⟩;exact retIQ hk)
def RowQ(w:World)(B:Nat)(v:Value)(os:List OpD):Prop:=w.ownsRow B 51 4 v os.length (zHc os)
theorem RowQ.mod{G:Nat->Prop}{w w':World}{B:Nat}{v:Value}{os:List OpD}(h:RowQ w B v os)(hm:Mod G w w')(hG:∀ k,v.ownBlock=some k->¬ G k):RowQ w' B v os:=zAm h hm (fun k _ _ e=>hG k e)
structure StoS where
 h:zAa
 txs:List TxD
 now:Int
 safe:Bool
 nodes:Nat
def zWn(g:Nat)(xv:Value)(s:StoS):List Value:=[.pointer (some ⟨g,0,none⟩),xv,.int .i64 s.now,.bool s.safe,.int .i64 s.nodes]
structure StoP(w:World)(n c gs g:Nat)(y:HLay)(xv:Value)(vs:List Value)(s:StoS):Prop where
 blk:Blk w gs (zWn g xv s) 37
 house:zAd w n c g y s.h
 row:RowX 46 w n xv s.txs vs
 ops:∀ (i:Nat) t u,s.txs[i]?=some t->vs[i]?=some u->RowQ w n u t.ops
 no:y.own gs=.no
 nox:∀ k,xv.ownBlock=some k->y.own k=.no
 noo:∀ u∈vs,∀ k,u.ownBlock=some k->y.own k=.no
 apart:∀ (i j:Nat) u v k,vs[i]?=some u->vs[j]?=some v->u.ownBlock=some k->v.ownBlock=some k->i=j
theorem StoP.ofMem{w:World}{n c gs g:Nat}{y:HLay}{xv:Value}{vs:List Value}{s:StoS}(h:StoP w n c gs g y xv vs s){u:Value}(hu:u∈vs):∃ (i:Nat) (t:TxD),s.txs[i]?=some t/\vs[i]?=some u/\RowQ w n u t.ops:=by
 obtain ⟨i,hi⟩:=List.getElem?_of_mem hu
 have hil:i<s.txs.length:=by have:=(List.getElem?_eq_some_iff.1 hi).1;have:=h.row.1;omega
 exact ⟨i,_,List.getElem?_eq_getElem hil,hi,h.ops i _ u (List.getElem?_eq_getElem hil) hi⟩
theorem StoP.step{w w':World}{n c c' gs g:Nat}{y y':HLay}{xv:Value}{vs:List Value}{s:StoS}(h:StoP w n c gs g y xv vs s)(hs:zBv w y w' y'){h':zAa}(hh:zAd w' n c' g y' h'):StoP w' n c' gs g y' xv vs { s with h:=h' }:=by
 have hx:∀ k,xv.ownBlock=some k->k<w.heap.size:=fun k hk=>by obtain ⟨_,_,cur,hc⟩:=zAh h.row.2 hk;exact (Array.getElem?_eq_some_iff.1 hc).1
 have ho:∀ u∈vs,∀ k,u.ownBlock=some k->k<w.heap.size:=fun u hu k hk=>by
  obtain ⟨i,t,_,_,hr⟩:=h.ofMem hu
  obtain ⟨_,_,cur,hc⟩:=zAh hr hk
  exact (Array.getElem?_eq_some_iff.1 hc).1
 exact ⟨hs.blk h.blk h.no,hh,h.row.mod hs.md (fun k hk e=>e (h.nox k hk)),fun i t u hi hu=>(h.ops i t u hi hu).mod hs.md (fun k hk e=>e (h.noo u (List.mem_of_getElem? hu) k hk)),
  (hs.old gs h.blk.lt).trans h.no,fun k hk=>(hs.old k (hx k hk)).trans (h.nox k hk),fun u hu k hk=>(hs.old k (ho u hu k hk)).trans (h.noo u hu k hk),h.apart⟩
theorem StoP.quiet{w w':World}{n c gs g:Nat}{y:HLay}{xv:Value}{vs:List Value}{s:StoS}(h:StoP w n c gs g y xv vs s)(hm:Mod zAb w w'):StoP w' n c gs g y xv vs s:=h.step (zBv.quiet hm) (h.house.quiet hm)
theorem blkS{w:World}{gs g:Nat}{xv:Value}{s:StoS}(h:Blk w gs (zWn g xv s) 37) :
  w.cell? ⟨gs,0,none⟩=some (.pointer (some ⟨g,0,none⟩))/\w.cell? ⟨gs,1,none⟩=some xv/\w.cell? ⟨gs,2,none⟩=some (.int .i64 s.now)/\w.cell? ⟨gs,3,none⟩=some (.bool s.safe)/\w.cell? ⟨gs,4,none⟩=some (.int .i64 s.nodes):=
 ⟨h.cell 0 rfl,h.cell 1 rfl,h.cell 2 rfl,h.cell 3 rfl,h.cell 4 rfl⟩
def zOu(s:StoS)(shard node:Nat):zAa:=if 1<(zGx s.h shard).length\/s.safe=false then (zGj s.h (10*shard+node:Nat)).1 else s.h
theorem yLe(n c gs g:Nat)(y:HLay)(xv:Value)(vs:List Value)(s:StoS)(k j:Nat)(w:World)(h:StoP w n c gs g y xv vs s)(hS:Safe s.h)(hsh:zFb s.h)(hk:k<s.h.lines.length)(hk3:k<3)(hj:j<3)(hd1:s.h.dead.length<=1000)(hd2:s.h.net.down.length<=1000)(hlo:s.h.net.lost+200<=4611686018427387904) :
  Calls Tryz.prog 32 #[.pointer (some ⟨gs,0,none⟩),.int .i64 k,.int .i64 j] w fun e w'=>e=.returned (.tuple #[])/\∃ y',StoP w' n c gs g y' xv vs { s with h:=zOu s k j }/\zBv w y w' y':=by
 obtain ⟨c0,c1,c2,c3,c4⟩:=blkS h.blk
 have HLG:=Hmq (zRb n c g y s.h k w h.house hS hk)
 have HH:=Hmq h
 have hgl:=h.blk.lt
 have HFL:Hid (∀ wq,Mod zAb w wq->Calls Tryz.prog 60 #[.pointer (some ⟨g,0,none⟩),.int .i64 (10*(k:Int)+j)] wq fun e w'=>∃ e',e=.returned e'/\∃ y',StoP w' n c gs g y' xv vs { s with h:=(zGj s.h (10*k+j:Nat)).1 }/\zBv w y w' y'):=fun wq hq=>by
  have:=yOt n c g y s.h (10*k+j:Nat) wq (h.house.quiet hq) hsh (by unfold zBm;omega) hd1 hd2 hlo
  rw [show ((10*k+j:Nat):Int)=10*(k:Int)+j by omega] at this ⊢
  refine this.mono ?_
  rintro e w' ⟨rfl,y',hh',hk'⟩
  exact ⟨_,rfl,y',(h.quiet hq).step hk'.st hh',(zBv.quiet hq).trans hk'.st⟩
 have e1:wrap64 (10*(k:Int))=10*(k:Int):=IntWalk.wrap64_in _ ⟨by omega,by omega⟩
 have e2:wrap64 (10*(k:Int)+j)=10*(k:Int)+j:=IntWalk.wrap64_in _ ⟨by omega,by omega⟩
 clear h
 go_enter Tryz.func32,Tryz.ntmps32
 go_wp2_with fail
 refine HLG.out.mono ?_
 rintro e w1 ⟨v,rfl,hr,hm⟩
 obtain ⟨us,hul,hrow,-⟩:=hr
 obtain ⟨va,vc,hva⟩:=zAf hrow
 subst hva
 have d3:=hm.cell c3 id
 have d0:=hm.cell c0 id
 have hgl1:=Nat.lt_of_lt_of_le hgl hm.size
 have HM:=Hmq hm
 obtain ⟨lg,hlg⟩:∃ z,z=zGx s.h k:=⟨_,rfl⟩
 rw [<-hlg]
 have HF1:Hid (1<lg.length\/s.safe=false->zOu s k j=(zGj s.h (10*k+j:Nat)).1):=fun e=>by unfold zOu;rw [<-hlg,if_pos e]
 have HF2:Hid (¬ (1<lg.length\/s.safe=false)->zOu s k j=s.h):=fun e=>by unfold zOu;rw [<-hlg,if_neg e]
 clear hlg hrow hul hm c0 c1 c2 c3 c4 HLG
 cases hb:decide ((lg.length:Int) > 1)
 ·cases hsf:s.safe
  ·rw [hsf] at d3
   have HE:=Hmq (HF1.out (.inr hsf))
   clear hsf
   go_wp2_with fail
   refine (HFL.out _ HM.out).mono ?_
   rintro e w2 ⟨e',rfl,y',hq,hst⟩
   rw [<-HE.out] at hq
   have HQ:=Hmq hq
   have HST:=Hmq hst
   clear hq hst
   go_wp2_with fail
   go_end0
   exact ⟨rfl,y',HQ.out,HST.out⟩
  ·rw [hsf] at d3
   have HE:=Hmq (HF2.out (fun e=>e.elim (fun e=>by simp at hb;omega) (fun e=>by rw [hsf] at e;cases e)))
   clear hsf
   go_wp2_with fail
   go_end0
   refine ⟨rfl,y,?_,zBv.quiet HM.out⟩
   rw [HE.out]
   exact HH.out.quiet HM.out
 ·have HE:=Hmq (HF1.out (.inl (by simp at hb;omega)))
  go_wp2_with fail
  refine (HFL.out _ HM.out).mono ?_
  rintro e w2 ⟨e',rfl,y',hq,hst⟩
  rw [<-HE.out] at hq
  have HQ:=Hmq hq
  have HST:=Hmq hst
  clear hq hst
  go_wp2_with fail
  go_end0
  exact ⟨rfl,y',HQ.out,HST.out⟩
theorem zAd.beside{w w':World}{n c g:Nat}{y:HLay}{s:zAa}{G:Nat->Prop}(h:zAd w n c g y s)(hm:Mod G w w')(hq:Qm w (y.lo n) G)(hG:∀ k,k<w.heap.size->G k->y.own k=.no):zAd w' n c g y s:=by
 have hN:∀ k,y.own k≠.no->¬ G k:=fun k hk e=>hk (hG k (h.own.lt k hk).2 e)
 refine ⟨h.blk.mod hm (hN _ (by rw [h.own.main];simp)),h.net.mod hm hq (fun k hk=>hN _ (by rw [h.own.net k hk];simp)),h.dead.mod hm (fun k hk=>hN _ (by cases hk;rw [h.own.dead];simp)),h.tab.mod hm (fun k hk=>hN _ (by rw [h.own.tab k hk];simp)),h.qn,
  zAm h.lrow hm (fun k _ _ e=>hN _ (by rw [h.own.lrow k e];simp)),h.llen,fun k b l hb hl=>?_,zAm h.trow hm (fun k _ _ e=>hN _ (by rw [h.own.trow k e];simp)),h.tlen,fun i b t hb ht=>?_,
  { h.own with lt:=fun k hk=>⟨(h.own.lt k hk).1,Nat.lt_of_lt_of_le (h.own.lt k hk).2 hm.size⟩ }⟩
 ·have hbm:=List.mem_of_getElem? hb
  obtain ⟨o1,o2⟩:=h.own.line b hbm
  exact (h.line k b l hb hl).mod hm hq (hN _ (by rw [o1];simp)) (fun x hx=>hN _ (by rw [o2 x hx];simp)) (fun d hd x hx=>hN _ (by rw [h.own.node b hbm d hd x hx];simp))
 ·obtain ⟨o1,o2⟩:=h.own.tx b (List.mem_of_getElem? hb)
  exact (h.tx i b t hb ht).mod hm (hN _ (by rw [o1];simp)) (fun x hx=>hN _ (by rw [o2 x hx];simp))
theorem notSt{w:World}{L:Lo}{k:Nat}{cur:Array Value}{t:TypeId}{fr:Nat × Nat}(hk:w.heap[k]?=some (.cells cur t fr))(ht:t≠68)(hn:L.n<=k):¬ St w L k:=by
 rintro (h | ⟨⟨cur',fr',h⟩,_⟩)
 ·omega
 ·rw [hk] at h;simp at h;exact ht h.2.1
def zIx(gs:Nat)(xv:Value)(vs:List Value)(k:Nat):Prop:=k=gs\/xv.ownBlock=some k\/∃ u∈vs,u.ownBlock=some k
theorem StoP.own_no{w:World}{n c gs g:Nat}{y:HLay}{xv:Value}{vs:List Value}{s:StoS}(h:StoP w n c gs g y xv vs s){k:Nat}(hk:zIx gs xv vs k):y.own k=.no:=by
 rcases hk with rfl | hk | ⟨u,hu,hk⟩
 ·exact h.no
 ·exact h.nox k hk
 ·exact h.noo u hu k hk
theorem StoP.cells{w:World}{n c gs g:Nat}{y:HLay}{xv:Value}{vs:List Value}{s:StoS}(h:StoP w n c gs g y xv vs s)(hgn:n<=gs){k:Nat}(hk:zIx gs xv vs k):n<=k/\k<w.heap.size/\∃ cur t fr,w.heap[k]?=some (.cells cur t fr)/\t≠68/\(xv.ownBlock=some k->t=46)/\(k=gs->t=37)/\((∃ u∈vs,u.ownBlock=some k)->t=51):=by
 have key:∀ k,xv.ownBlock=some k->∃ cur,n<=k/\w.heap[k]?=some (.cells cur 46 (0,0)):=fun k hk=>by
  obtain ⟨a,b,cur,hc⟩:=zAh h.row.2 hk
  exact ⟨cur,a,hc⟩
 have keyO:∀ u∈vs,∀ k,u.ownBlock=some k->∃ cur,n<=k/\w.heap[k]?=some (.cells cur 51 (0,0)):=fun u hu k hk=>by
  obtain ⟨i,t,_,_,hr⟩:=h.ofMem hu
  obtain ⟨a,b,cur,hc⟩:=zAh hr hk
  exact ⟨cur,a,hc⟩
 have hgs:w.heap[gs]?=some (.cells (zWn g xv s).toArray 37 (0,0)):=h.blk
 rcases hk with rfl | hk | ⟨u,hu,hk⟩
 ·refine ⟨hgn,h.blk.lt,_,_,_,hgs,by decide,fun e=>?_,fun _=>rfl,fun ⟨u,hu,e⟩=>?_⟩
  ·obtain ⟨cur,_,hc⟩:=key _ e;rw [hgs] at hc;simp at hc
  ·obtain ⟨cur,_,hc⟩:=keyO u hu _ e;rw [hgs] at hc;simp at hc
 ·obtain ⟨cur,hn,hc⟩:=key k hk
  refine ⟨hn,(Array.getElem?_eq_some_iff.1 hc).1,_,_,_,hc,by decide,fun _=>rfl,fun e=>?_,fun ⟨u,hu,e⟩=>?_⟩
  ·subst e;rw [hgs] at hc;simp at hc
  ·obtain ⟨cur',_,hc'⟩:=keyO u hu _ e;rw [hc] at hc';simp at hc'
 ·obtain ⟨cur,hn,hc⟩:=keyO u hu k hk
  refine ⟨hn,(Array.getElem?_eq_some_iff.1 hc).1,_,_,_,hc,by decide,fun e=>?_,fun e=>?_,fun _=>rfl⟩
  ·obtain ⟨cur',_,hc'⟩:=key _ e;rw [hc] at hc';simp at hc'
  ·subst e;rw [hgs] at hc;simp at hc
theorem StoP.house'{w w':World}{n c gs g:Nat}{y:HLay}{xv:Value}{vs:List Value}{s:StoS}(h:StoP w n c gs g y xv vs s)(hgn:n<=gs){G:Nat->Prop}(hm:Mod G w w')(hG:∀ k,k<w.heap.size->G k->zIx gs xv vs k):zAd w' n c g y s.h:=
 h.house.beside hm (fun k hk e=>by
  obtain ⟨a,_,cur,t,fr,hc,ht,_⟩:=h.cells hgn (hG k hk e)
  exact notSt hc ht a) (fun k hk e=>h.own_no (hG k hk e))
theorem StoP.tick{w:World}{n c gs g:Nat}{y:HLay}{xv:Value}{vs:List Value}{s:StoS}(h:StoP w n c gs g y xv vs s)(hgn:n<=gs)(t:Int):StoP (w.setCell ⟨gs,2,none⟩ (.int .i64 t)) n c gs g y xv vs { s with now:=t }:=by
 have hm:Mod (zAc gs) w (w.setCell ⟨gs,2,none⟩ (.int .i64 t)):=Mod.setBlk gs 2 _
 have hne:∀ k,zIx gs xv vs k->k≠gs->¬ zAc gs k:=fun k _ e q=>e q
 refine ⟨?_,h.house' hgn hm (fun k _ e=>.inl e),h.row.mod hm (fun k hk e=>?_),fun i x u hi hu=>(h.ops i x u hi hu).mod hm (fun k hk e=>?_),h.no,h.nox,h.noo,h.apart⟩
 ·have:=h.blk.set 2 (.int .i64 t)
  exact this
 ·obtain ⟨_,_,cur,ty,fr,_,_,q1,q2,_⟩:=h.cells hgn (k:=k) (.inr (.inl hk))
  have:=(q1 hk).symm.trans (q2 e)
  exact absurd this (by decide)
 ·obtain ⟨_,_,cur,ty,fr,_,_,_,q2,q3⟩:=h.cells hgn (k:=k) (.inr (.inr ⟨u,List.mem_of_getElem? hu,hk⟩))
  have:=(q3 ⟨u,List.mem_of_getElem? hu,hk⟩).symm.trans (q2 e)
  exact absurd this (by decide)
theorem yPl{w:World}{L:Nat}{e:TypeId}{sz b n cap:Nat}{xs:List Value}(h:w.ownsRow L e sz (.slice (some ⟨b,0,none⟩) n cap) n xs)(i:Nat)(u:Value):(w.setCell ⟨b,i,none⟩ u).ownsRow L e sz (.slice (some ⟨b,0,none⟩) n cap) n (xs.set i u):=by
 refine ⟨by rw [List.length_set];exact h.1,?_⟩
 rcases h.2 with ⟨h0,_⟩ | ⟨g,cap',cur,hv,h1,hg,h2,h3,h4,h5⟩
 ·cases h0
 ·simp only [Value.slice.injEq,Option.some.injEq,Addr.mk.injEq] at hv
  obtain ⟨⟨rfl,_⟩,_,rfl⟩:=hv
  refine .inr ⟨b,cap,cur.setIfInBounds i u,rfl,h1,?_,h2,h3,by simpa using h4,?_⟩
  ·simp [World.setCell,Array.getElem?_modify,hg]
  ·rw [Array.toList_setIfInBounds,List.take_set,h5]
theorem zKx:∀ (ts:List TxD) (vs:List Value) (i:Nat) (t:TxD) (os:List OpD) (v:Value),vs.length=ts.length->ts[i]?=some t->(zCs ts vs).set (i*3) v=zCs (ts.set i ⟨os,t.frm,t.til⟩) (vs.set i v)
 | [],_,_,_,_,_,_,h=>by simp at h
 | _ :: _,[],_,_,_,_,h,_=>by simp at h
 | p :: ts,q :: vs,0,t,os,v,_,h=>by
  simp at h
  subst h
  rfl
 | p :: ts,q :: vs,i+1,t,os,v,hl,h=>by
  have ih:=zKx ts vs i t os v (by simpa using hl) (by simpa using h)
  rw [List.set_cons_succ,List.set_cons_succ,zCs,zCs,<-ih,show (i+1)*3=i*3+1+1+1 by omega]
  rfl
theorem RowX.setOps{ty:TypeId}{w:World}{B b n cap:Nat}{ts:List TxD}{vs:List Value}{i:Nat}{t:TxD}(h:RowX ty w B (.slice (some ⟨b,0,none⟩) n cap) ts vs)(hn:n=ts.length)(hi:ts[i]?=some t)(os:List OpD)(v:Value):RowX ty (w.setCell ⟨b,i*3,none⟩ v) B (.slice (some ⟨b,0,none⟩) n cap) (ts.set i ⟨os,t.frm,t.til⟩) (vs.set i v):=by
 subst hn
 refine ⟨by simpa using h.1,?_⟩
 rw [<-zKx ts vs i t os v h.1 hi,List.length_set]
 exact yPl h.2 _ _
theorem zKw:∀ (ts:List TxD) (vs:List Value) (i:Nat) (t:TxD) (u:Int),vs.length=ts.length->ts[i]?=some t->(zCs ts vs).set (i*3+2) (.int .i64 u)=zCs (ts.set i ⟨t.ops,t.frm,u⟩) vs
 | [],_,_,_,_,_,h=>by simp at h
 | _ :: _,[],_,_,_,h,_=>by simp at h
 | p :: ts,q :: vs,0,t,u,_,h=>by
  simp at h
  subst h
  rfl
 | p :: ts,q :: vs,i+1,t,u,hl,h=>by
  have ih:=zKw ts vs i t u (by simpa using hl) (by simpa using h)
  rw [List.set_cons_succ,zCs,zCs,<-ih,show (i+1)*3+2=i*3+2+1+1+1 by omega]
  rfl
theorem StoP.x_slice{w:World}{n c gs g:Nat}{y:HLay}{xv:Value}{vs:List Value}{s:StoS}(h:StoP w n c gs g y xv vs s){i:Nat}{t:TxD}(hi:s.txs[i]?=some t):∃ xb cap,xv=.slice (some ⟨xb,0,none⟩) s.txs.length cap:=by
 have hl:=(List.getElem?_eq_some_iff.1 hi).1
 rcases h.row.2.2 with ⟨_,h0⟩ | ⟨g',cap',cur,e,_⟩
 ·omega
 ·exact ⟨g',cap',e⟩
theorem StoP.setTil{w:World}{n c gs g xb cap:Nat}{y:HLay}{vs:List Value}{s:StoS}(h:StoP w n c gs g y (.slice (some ⟨xb,0,none⟩) s.txs.length cap) vs s)(hgn:n<=gs){i:Nat}{t:TxD}(hi:s.txs[i]?=some t)(u:Int) :
  StoP (w.setCell ⟨xb,i*3+2,none⟩ (.int .i64 u)) n c gs g y (.slice (some ⟨xb,0,none⟩) s.txs.length cap) vs { s with txs:=s.txs.set i ⟨t.ops,t.frm,u⟩ }:=by
 have hm:Mod (zAc xb) w (w.setCell ⟨xb,i*3+2,none⟩ (.int .i64 u)):=Mod.setBlk xb _ _
 have hx:(Value.slice (some ⟨xb,0,none⟩) s.txs.length cap).ownBlock=some xb:=rfl
 obtain ⟨_,_,cur,ty,fr,_,_,q1,q2,q3⟩:=h.cells hgn (k:=xb) (.inr (.inl hx))
 have hr:=h.row
 refine ⟨h.blk.mod hm (fun e=>?_),h.house' hgn hm (fun k _ e=>.inr (.inl (by rw [hx];exact congrArg some (Eq.symm e)))),⟨by rw [List.length_set];exact hr.1,?_⟩,fun j x v hj hv=>?_,h.no,h.nox,h.noo,h.apart⟩
 ·have:=(q1 hx).symm.trans (q2 (Eq.symm e));exact absurd this (by decide)
 ·show World.ownsRow _ _ _ _ _ (s.txs.set i ⟨t.ops,t.frm,u⟩).length (zCs (s.txs.set i ⟨t.ops,t.frm,u⟩) vs)
  rw [<-zKw s.txs vs i t u hr.1 hi,List.length_set]
  exact yPl hr.2 _ _
 ·have hne:∀ k,v.ownBlock=some k->¬ zAc xb k:=fun k hk e=>by
   have e':k=xb:=e
   subst e'
   have:=(q1 hx).symm.trans (q3 ⟨v,List.mem_of_getElem? hv,hk⟩)
   exact absurd this (by decide)
  rw [List.getElem?_set] at hj
  split at hj
  ·rename_i e
   split at hj
   ·cases hj
    subst e
    exact (h.ops _ t v hi hv).mod hm hne
   ·cases hj
  ·exact (h.ops j x v hj hv).mod hm hne
theorem StoP.pushOp{w w7:World}{n c gs g xb cap:Nat}{y:HLay}{vs:List Value}{s:StoS}(h:StoP w n c gs g y (.slice (some ⟨xb,0,none⟩) s.txs.length cap) vs s)(hgn:n<=gs){i:Nat}{t:TxD}{u v7:Value}{o:OpD}(hi:s.txs[i]?=some t)(hu:vs[i]?=some u)(hm:Mod (fun k=>u.ownBlock=some k) w w7)
  (hown:RowQ w7 n v7 (t.ops++[o])) (hmv:∀ k,v7.ownBlock=some k->u.ownBlock=some k\/w.heap.size<=k) :
  StoP (w7.setCell ⟨xb,i*3,none⟩ v7) n c gs g y (.slice (some ⟨xb,0,none⟩) s.txs.length cap) (vs.set i v7) { s with txs:=s.txs.set i ⟨t.ops++[o],t.frm,t.til⟩ }:=by
 have hum:=List.mem_of_getElem? hu
 have hx:(Value.slice (some ⟨xb,0,none⟩) s.txs.length cap).ownBlock=some xb:=rfl
 obtain ⟨_,hxl,cur,ty,fr,hxc,_,q1,q2,q3⟩:=h.cells hgn (k:=xb) (.inr (.inl hx))
 have hr:=h.row
 have hux:∀ v∈vs,v.ownBlock≠some xb:=fun v hv e=>by
  have:=(q1 hx).symm.trans (q3 ⟨v,hv,e⟩);exact absurd this (by decide)
 have hgx:gs≠xb:=fun e=>by have:=(q1 hx).symm.trans (q2 (Eq.symm e));exact absurd this (by decide)
 have hgu:∀ v∈vs,v.ownBlock≠some gs:=fun v hv e=>by
  obtain ⟨_,_,cur,ty,fr,_,_,_,p2,p3⟩:=h.cells hgn (k:=gs) (.inl rfl)
  have:=(p2 rfl).symm.trans (p3 ⟨v,hv,e⟩);exact absurd this (by decide)
 have hlt:∀ v∈vs,∀ k,v.ownBlock=some k->k<w.heap.size:=fun v hv k hk=>(h.cells hgn (k:=k) (.inr (.inr ⟨v,hv,hk⟩))).2.1
 have hm8:Mod (zAc xb) w7 (w7.setCell ⟨xb,i*3,none⟩ v7):=Mod.setBlk xb _ _
 have hM:Mod (fun k=>u.ownBlock=some k\/k=xb) w (w7.setCell ⟨xb,i*3,none⟩ v7):=(hm.mono (fun _ _ e=>.inl e)).trans (hm8.mono (fun _ _ e=>.inr e))
 have hil:=(List.getElem?_eq_some_iff.1 hu).1
 have h7x:v7.ownBlock≠some xb:=fun e=>by
  rcases hmv xb e with q | q
  ·exact hux u hum q
  ·omega
 have hno:∀ k,w.heap.size<=k->y.own k=.no:=fun k hk=>by
  by_cases e:y.own k=.no
  ·exact e
  ·have:=(h.house.own.lt k e).2;omega
 have r7:RowX 46 w7 n (.slice (some ⟨xb,0,none⟩) s.txs.length cap) s.txs vs:=hr.mod hm (fun k hk e=>by rw [hx] at hk;cases hk;exact hux u hum e)
 refine ⟨h.blk.mod hM (fun e=>e.elim (hgu u hum) hgx),h.house' hgn hM (fun k _ e=>e.elim (fun e=>.inr (.inr ⟨u,hum,e⟩)) (fun e=>.inr (.inl (by rw [hx];exact congrArg some (Eq.symm e))))),?_,fun j x v hj hv=>?_,h.no,h.nox,fun v hv k hk=>?_,fun a b p q k ha hb hp hq=>?_⟩
 ·have:=r7.setOps rfl hi (t.ops++[o]) v7
  exact this
 ·rw [List.getElem?_set] at hj hv
  by_cases e:i=j
  ·subst e
   have hil2:=(List.getElem?_eq_some_iff.1 hi).1
   rw [if_pos rfl,if_pos hil2] at hj
   rw [if_pos rfl,if_pos hil] at hv
   cases hj
   cases hv
   exact hown.mod hm8 (fun k hk e=>h7x (by have e':k=xb:=e;rw [e'] at hk;exact hk))
  ·rw [if_neg e] at hj hv
   refine (h.ops j x v hj hv).mod hM (fun k hk q=>?_)
   rcases q with q | q
   ·exact e (h.apart i j u v k hu hv q hk)
   ·subst q;exact hux v (List.mem_of_getElem? hv) hk
 ·rcases List.mem_or_eq_of_mem_set hv with q | q
  ·exact h.noo v q k hk
  ·subst q
   rcases hmv k hk with r | r
   ·exact h.noo u hum k r
   ·exact hno k r
 ·rw [List.getElem?_set] at ha hb
  by_cases ea:i=a
  ·by_cases eb:i=b
   ·omega
   ·rw [if_neg eb] at hb
    subst ea
    rw [if_pos rfl,if_pos hil] at ha
    cases ha
    rcases hmv k hp with r | r
    ·exact absurd (h.apart i b u q k hu hb r hq) eb
    ·have:=hlt q (List.mem_of_getElem? hb) k hq;omega
  ·rw [if_neg ea] at ha
   by_cases eb:i=b
   ·subst eb
    rw [if_pos rfl,if_pos hil] at hb
    cases hb
    rcases hmv k hq with r | r
    ·exact absurd (h.apart i a u p k hu ha r hp) ea
    ·have:=hlt p (List.mem_of_getElem? ha) k hp;omega
   ·rw [if_neg eb] at hb
    exact h.apart a b p q k ha hb hp hq
theorem StoP.pushTx{w w7:World}{n c gs g:Nat}{y:HLay}{xv v7:Value}{vs:List Value}{s:StoS}(h:StoP w n c gs g y xv vs s)(hgn:n<=gs)(f e:Int)(hm:Mod (fun k=>xv.ownBlock=some k) w w7)
  (hown:RowX 46 w7 n v7 (s.txs++[⟨[],f,e⟩]) (vs++[.slice none 0 0])) (hmv:∀ k,v7.ownBlock=some k->xv.ownBlock=some k\/w.heap.size<=k) :
  StoP (w7.setCell ⟨gs,1,none⟩ v7) n c gs g y v7 (vs++[.slice none 0 0]) { s with txs:=s.txs++[⟨[],f,e⟩] }:=by
 obtain ⟨_,hgl,cur,ty,fr,_,_,q1,q2,q3⟩:=h.cells hgn (k:=gs) (.inl rfl)
 have hgx:xv.ownBlock≠some gs:=fun e=>by have:=(q1 e).symm.trans (q2 rfl);exact absurd this (by decide)
 have hgu:∀ v∈vs,v.ownBlock≠some gs:=fun v hv e=>by have:=(q2 rfl).symm.trans (q3 ⟨v,hv,e⟩);exact absurd this (by decide)
 have hux:∀ v∈vs,∀ k,v.ownBlock=some k->xv.ownBlock≠some k:=fun v hv k hk e=>by
  obtain ⟨_,_,cur,ty,fr,_,_,p1,_,p3⟩:=h.cells hgn (k:=k) (.inr (.inl e))
  have:=(p1 e).symm.trans (p3 ⟨v,hv,hk⟩);exact absurd this (by decide)
 have hm8:Mod (zAc gs) w7 (w7.setCell ⟨gs,1,none⟩ v7):=Mod.setBlk gs _ _
 have hM:Mod (fun k=>xv.ownBlock=some k\/k=gs) w (w7.setCell ⟨gs,1,none⟩ v7):=(hm.mono (fun _ _ e=>.inl e)).trans (hm8.mono (fun _ _ e=>.inr e))
 have h7g:v7.ownBlock≠some gs:=fun e=>by
  rcases hmv gs e with q | q
  ·exact hgx q
  ·omega
 have hno:∀ k,w.heap.size<=k->y.own k=.no:=fun k hk=>by
  by_cases e:y.own k=.no
  ·exact e
  ·have:=(h.house.own.lt k e).2;omega
 have hvl:=h.row.1
 have hnl:∀ k,(Value.slice none 0 0).ownBlock≠some k:=fun k e=>by cases e
 refine ⟨?_,h.house' hgn hM (fun k _ e=>e.elim (fun e=>.inr (.inl e)) .inl),hown.mod hm8 (fun k hk e=>h7g (by have e':k=gs:=e;rw [e'] at hk;exact hk)),fun j x v hj hv=>?_,h.no,fun k hk=>?_,fun v hv k hk=>?_,fun a b p q k ha hb hp hq=>?_⟩
 ·exact (h.blk.mod hm hgx).set 1 v7
 ·by_cases hjl:j<s.txs.length
  ·rw [List.getElem?_append_left hjl] at hj
   rw [List.getElem?_append_left (by omega)] at hv
   refine (h.ops j x v hj hv).mod hM (fun k hk q=>?_)
   rcases q with q | q
   ·exact hux v (List.mem_of_getElem? hv) k hk q
   ·subst q;exact hgu v (List.mem_of_getElem? hv) hk
  ·rw [List.getElem?_append_right (by omega)] at hj
   rw [List.getElem?_append_right (by omega)] at hv
   have e0:j - s.txs.length=0:=by have:=(List.getElem?_eq_some_iff.1 hj).1;simp at this;omega
   have e1:j - vs.length=0:=by omega
   rw [e0] at hj
   rw [e1] at hv
   cases hj
   cases hv
   exact World.ownsRow_nil _ _ _ _
 ·rcases hmv k hk with r | r
  ·exact h.nox k r
  ·exact hno k r
 ·rcases List.mem_append.1 hv with q | q
  ·exact h.noo v q k hk
  ·rw [List.mem_singleton] at q;subst q;exact absurd hk (hnl k)
 ·have sp:∀ (a:Nat) (p:Value),(vs++[Value.slice none 0 0])[a]?=some p->p.ownBlock=some k->vs[a]?=some p:=fun a p ha hp=>by
   by_cases hal:a<vs.length
   ·rw [List.getElem?_append_left hal] at ha;exact ha
   ·rw [List.getElem?_append_right (by omega)] at ha
    have e1:a - vs.length=0:=by have:=(List.getElem?_eq_some_iff.1 ha).1;simp at this;omega
    rw [e1] at ha
    cases ha
    exact absurd hp (hnl k)
  exact h.apart a b p q k (sp a p ha hp) (sp b q hb hq) hp hq
end Go.Proofs.YtmaiggbnceejiaaGreatDoor
