import Derived.Test.YtogaigioeohjaaaGreatDoorD41
import Derived.Test.YtogaigioeohjaaaGreatDoorD24
import Derived.Test.YtogaigioeohjaaaGreatDoorD27
import Derived.Test.YtogaigioeohjaaaGreatDoorD32
import Derived.Test.YtogaigioeohjaaaGreatDoorD40
import Derived.Maps.OwnSet
set_option linter.unusedVariables false
set_option maxRecDepth 100000
set_option maxHeartbeats 16000000
namespace Go.Proofs.YtogaigioeohjaaaGreatDoor
open Go.RowKit Go.Lib Go.Maps
theorem zLh(s:zAa)(id:Int)(key:ByteArray)(mode:Int):(zBs s id key mode).1.lines=s.lines:=by
 unfold zBs
 simp only
 split
 ·have:=(zBk.wound (zDa (zAw s id key mode).1 id key) (zAw s id key mode).1).l
  exact this
 ·rfl
theorem yDp(s:zAa)(id:Int)(key:ByteArray)(mode:Int):(zBw s id key mode).1.lines=s.lines:=by
 unfold zBw
 simp only
 split
 ·exact zLh s id key mode
 ·split
  ·exact zLh s id key mode
  ·exact ((zBk.wound _ _).l).trans (zLh s id key mode)
theorem RowC.logV{w:World}{L:Lo}{v:Value}{cs:List CmdD}(h:RowC w L v cs)(hL:L.n<=w.heap.size):∃ us,LogV w w.heap.size v cs us/\∀ c∈cs,c.writes.length<=40:=by
 have h0:=h.toV
 obtain ⟨us,h1,h2,h3,h4⟩:=h
 refine ⟨us,⟨h1,?_,fun i c u hi hu=>?_⟩,fun c hc=>(h4 c hc).2⟩
 ·obtain ⟨us',⟨k1,k2⟩,k3⟩:=RowC.toV (L:=L) ⟨us,h1,h2,h3,h4⟩
  have hz:(cs.zip us).length=cs.length:=by rw [List.length_zip];omega
  rcases h2.2 with ⟨rfl,hn⟩ | ⟨g,cap,cur,rfl,q1,q2,q3,q4,q5,q6⟩
  ·have hc:cs=[]:=List.eq_nil_of_length_eq_zero hn
   subst hc
   exact SlR.nil _ _ _ _
  ·have hcl:=h2.cells (g:=g) rfl
   have hgl:g<w.heap.size:=(Array.getElem?_eq_some_iff.1 q2).1
   refine ⟨_,cap,by rw [hz],by rw [hz];exact q3,q4,.inr ⟨g,0,rfl,by omega,fun i d hi=>⟨zEm d.1 d.2,rfl,rfl,fun j x hx=>?_⟩⟩⟩
   obtain ⟨e1,e2⟩:=zWr hi
   have:=hcl _ _ (zIe cs us i d.1 d.2 h1 e1 e2 j x hx)
   rw [Go.WideShapes.add_plain,Nat.zero_add] at this
   rw [Nat.zero_add]
   exact this
 ·obtain ⟨a,cap,e1,e2,e3,e4⟩:=h3 i c u hi hu
  refine ⟨a,cap,e1,e2,e3,?_⟩
  rcases e4 with e4 | ⟨b,off,e5,e6,e7⟩
  ·exact .inl e4
  ·refine .inr ⟨b,off,e5,?_,fun j p hp=>⟨[.string p.key,.string p.val,.bool p.gone],rfl,rfl,fun k x hx=>?_⟩⟩
   ·rcases e6 with e6 | ⟨⟨cur,fr,e6⟩,_⟩
    ·omega
    ·exact (Array.getElem?_eq_some_iff.1 e6).1
   ·obtain ⟨f0,f1,f2⟩:=e7 j p hp
    match k,hx with
    | 0,hx=>simp at hx;subst hx;exact f0
    | 1,hx=>simp at hx;subst hx;exact f1
    | 2,hx=>simp at hx;subst hx;exact f2
    | (k+3),hx=>simp at hx
def headLog(s:zAa)(key:ByteArray):List CmdD:=((s.line (zAv s key)).nodes.getD 0 ⟨0,0,[],[],0⟩).log
def GetP(w:World)(n c g:Nat)(y:HLay)(r:zAa × ByteArray × Bool × Int)(e:Ending)(w':World):Prop:=e=.returned (.tuple #[.string r.2.1,.bool r.2.2.1,errQ r.2.2.2])/\∃ y',zAe w' n c g y' r.1/\zAm w y w' y'
theorem yTe(n c g:Nat)(y:HLay)(s:zAa)(id:Int)(key:ByteArray)(w:World)(h:zAe w n c g y s)(hok:zQn w n c s)(hk:okQ key)(hlg:(headLog s key).length<=1000/\∀ c∈headLog s key,c.kind=3->(zDl (headLog s key) 2 c.tx).isSome=true) :
  Calls Tryz.prog 50 #[.pointer (some ⟨g,0,none⟩),.int .i64 id,.string key] w (GetP w n (c+2) g y (getH s id key)):=by
 have hmk:=zMd
 have hcc:=hok.c
 have HCM:=Hmq (yGf n c g y s id key w h hok.sh hk)
 have HP1:Hid (getH s id key=if zIa s id key≠0 then (s,ByteArray.empty,false,zIa s id key) else if (zBw s id key 1).2≠0 then ((zBw s id key 1).1,ByteArray.empty,false,(zBw s id key 1).2) else ((zBw s id key 1).1,(zJw (((zBw s id key 1).1.tx id.toNat).writes.reverse++zBn (headLog s key)) key).1,(zJw (((zBw s id key 1).1.tx id.toNat).writes.reverse++zBn (headLog s key)) key).2,0)):=rfl
 have HH:=Hmq h
 have HOK:=Hmq hok
 have HLG:=Hmq hlg
 clear h hok hlg
 go_enter Tryz.func50,Tryz.ntmps50
 go_wp2_with fail
 refine HCM.out.mono ?_
 rintro e w2 ⟨hC,hm2⟩
 rcases hC with ⟨hc0,rfl⟩ | ⟨hc0,b,d,hb,hd,hlv,rfl⟩
 ·rw [zBa hc0]
  have HF:Hid (GetP w n (c+2) g y (getH s id key) (.returned (.tuple #[.string ⟨#[]⟩,.bool false,.iface 25 (.int .i64 (zIa s id key))])) w2):=by
   unfold Hid;rw [HP1.out,if_pos hc0];exact ⟨by rw [zBa hc0];rfl,y,(HH.out.quiet hm2).moreC (by omega),zAm.quiet hm2⟩
  clear hc0
  go_wp2_with fail
  go_ret3
  exact HF.out
 ·obtain ⟨ho,hk20,hhd⟩:=zCi hc0
  obtain ⟨i,rfl,hi1,hi2,hst⟩:=zEi ho
  have HP2:Hid (getH s i key=if (zBw s i key 1).2≠0 then ((zBw s i key 1).1,ByteArray.empty,false,(zBw s i key 1).2) else ((zBw s i key 1).1,(zJw (((zBw s i key 1).1.tx i).writes.reverse++zBn (headLog s key)) key).1,(zJw (((zBw s i key 1).1.tx i).writes.reverse++zBn (headLog s key)) key).2,0)):=by
   unfold Hid;rw [HP1.out,if_neg (fun q=>q hc0),Int.toNat_natCast]
  have hh2:=HH.out.quiet hm2
  have HLK:=Hmq (yAz n c g y s i key 1 w2 hh2 ⟨HOK.out.sh,HOK.out.ki,HOK.out.et.mod hm2,HOK.out.n,hcc⟩ hi1 hi2 hk20 (.inl rfl))
  have HM2:=Hmq hm2
  have HB:=Hmq hb
  have HD:=Hmq hd
  clear hc0 hb hd hlv HCM HP1 hm2 hh2 ho hhd
  go_wp2_with fail
  refine HLK.out.mono ?_
  rintro e w5 ⟨rfl,y5,hH5,hK5⟩
  have hKF:=(zAm.quiet HM2.out).trans hK5
  obtain ⟨hln,hlw⟩:=zSh s i key 1 HOK.out.sh.tw
  have htl:=HOK.out.sh.tl
  by_cases he:(zBw s i key 1).2=0
  ·rw [he,zCc]
   have hle:i<=(zBw s i key 1).1.txs.length:=by rw [hln];exact hi2
   obtain ⟨tb5,htb5,hT5⟩:=hH5.txQ (id:=i) hi1 hle
   have hwl5:=zIi hlw i
   have hb5:y5.lbs[zAv s key]?=some b:=by rw [hKF.l];exact HB.out
   have hd5:(y5.nbs b)[0]?=some d:=by rw [hKF.n];exact HD.out
   have hnd:=hH5.nodeB hb5 (List.mem_of_getElem? hd5)
   have hlog:(y5.st (zBw s i key 1).1 d).log=headLog s key:=by
    have hkl:zAv s key<(zBw s i key 1).1.lines.length:=by
     have:=(List.getElem?_eq_some_iff.1 hb5).1
     rw [hH5.llen] at this;exact this
    have hlp:=hH5.line _ _ _ hb5 (List.getElem?_eq_getElem hkl)
    have hnl:0<((zBw s i key 1).1.lines[zAv s key]).nodes.length:=by
     have:=(List.getElem?_eq_some_iff.1 hd5).1
     rw [hlp.len] at this;exact this
    rw [hH5.st_eq hb5 (List.getElem?_eq_getElem hkl) hd5 (List.getElem?_eq_getElem hnl)]
    unfold headLog zAa.line
    rw [<-yDp s i key 1]
    simp only [List.getD_eq_getElem?_getD,List.getElem?_eq_getElem hkl,List.getElem?_eq_getElem hnl,Option.getD_some]
   have HTX:=Hmq (zHy n (c+2) g y5 _ i tb5 w5 hH5 hi1 (by omega) htb5)
   have HNL:=Hmq (zRe (y5.lo n) d (y5.nnv d) (y5.nlv d) _ w5 hnd)
   rw [hlog] at HNL
   have HF:Hid (∀ w6 r,Mod zAb w5 w6->r=zJw (((zBw s i key 1).1.tx i).writes.reverse++zBn (headLog s key)) key->GetP w n (c+2) g y (getH s i key) (.returned (.tuple #[.string r.1,.bool r.2,.nilIface])) w6):=fun w6 r hm hr=>by
    subst hr
    rw [HP2.out,if_neg (fun q=>q he)];exact ⟨by rw [zCc],y5,hH5.quiet hm,hKF.trans (zAm.quiet hm)⟩
   have HT:=Hmq hT5
   have HLW:Hid (n<=w5.heap.size):=Nat.le_trans hH5.low (Nat.le_of_lt hH5.blk.lt)
   have hc2:=hT5.blk.cell 2 rfl
   clear hH5 hK5 hT5 htb5 hKF hln hlw he HLK hb5 hd5 hnd hlog hle
   go_wp2_with (first
    | (go_at_call 72;refine HTX.out.mono ?_;rintro e w6 ⟨rfl,rfl⟩)
    | (go_at_call 91;refine HNL.out.mono ?_;rintro e w6 ⟨lv,rfl,hr6,hf6,hm6⟩;obtain ⟨la,lc,hlv6⟩:=hr6.slice;subst hlv6))
   obtain ⟨us,hlv6,hw40⟩:=hr6.logV (Nat.le_trans HLW.out hm6.size)
   have HSE:=Hmq (yPd tb5 _ _ ((zBw s i key 1).1.tx i).writes (headLog s key) us key (by omega) HLG.out.1 (fun c hc h3=>by
    have:=HLG.out.2 c hc h3
    obtain ⟨j,hj⟩:=Option.isSome_iff_exists.1 this
    have hjl:j<(headLog s key).length:=by
     unfold zDl at hj
     exact (List.findIdx?_eq_some_iff_getElem.1 hj).1
    exact ⟨j,_,hj,List.getElem?_eq_getElem hjl,Nat.le_trans (hw40 _ (List.getElem_mem hjl)) (by omega)⟩) w6 (hm6.cell hc2 id) (HT.out.mod hm6 id (fun _ _ e=>e)).toV hlv6)
   obtain ⟨r,hr⟩:∃ z,z=zJw (((zBw s i key 1).1.tx i).writes.reverse++zBn (headLog s key)) key:=⟨_,rfl⟩
   rw [<-hr] at HSE
   have HG:=Hmq (fun w7 (hm7:Mod zAb w6 w7)=>HF.out w7 r (hm6.trans hm7) hr)
   clear hr hr6 hf6 hm6 hlv6 hw40 HF HT HLW hc2 HNL HTX
   refine HSE.out.mono ?_
   rintro e w7 ⟨rfl,hm7⟩
   have HG2:=Hmq (HG.out w7 hm7)
   clear HG hm7 HSE
   go_wp2_with fail
   go_ret3
   exact HG2.out
  ·rw [zBa he]
   have HF:Hid (GetP w n (c+2) g y (getH s i key) (.returned (.tuple #[.string ⟨#[]⟩,.bool false,.iface 25 (.int .i64 (zBw s i key 1).2)])) w5):=by
    unfold Hid;rw [HP2.out,if_pos he];exact ⟨by rw [zBa he];rfl,y5,hH5,hKF⟩
   clear hH5 hK5 hKF he HLK
   go_wp2_with fail
   go_ret3
   exact HF.out
def ordR:List (List UInt8 × Nat × Int):=[([116,119,105,99,101],30,1),([116,105,99,107],29,0),([115,116,97,116,101],28,1),([115,104,97,114,100],27,1),([112,117,116],26,3),([110,101,119],25,2),([108,111,115,101],24,1),([104,101,108,112],23,0),([103,101,116],22,2),([102,105,120],21,0),([102,97,105,108],20,1),([101,110,100],19,1),([100,114,111,112],18,1),([100,101,108,105,118,101,114],17,1),([100,101,108],16,2),([99,97,108,109],15,0),([98,101,103,105,110],14,0),([97,108,105,118,101],13,0)]
def ordV(ss:Nat):Option (Nat × Int)->Value
 | none=>.agg #[.int .i64 0,.nilFunc]
 | some (f,n)=>.agg #[.int .i64 n,.func (.func f) #[.pointer (some ⟨ss,0,none⟩)] #[]]
theorem yPs{ss:Nat}{a b:Option (Nat × Int)}(h:ordV ss a=ordV ss b):a=b:=by
 cases a with
 | none=>cases b with
  | none=>rfl
  | some b=>simp [ordV] at h
 | some a=>cases b with
  | none=>simp [ordV] at h
  | some b=>
   obtain ⟨f,n⟩:=a
   obtain ⟨f',n'⟩:=b
   simp [ordV] at h
   simp [h]
def zQs:Option (Nat × Int)->DataW Unit
 | none=>.nil
 | some (f,n)=>.agg [.lit (.int .i64 f),.lit (.int .i64 n)]
theorem yMy{a b:Option (Nat × Int)}(h:zQs a=zQs b):a=b:=by
 cases a with
 | none=>cases b with
  | none=>rfl
  | some b=>simp [zQs] at h
 | some a=>cases b with
  | none=>simp [zQs] at h
  | some b=>
   obtain ⟨f,n⟩:=a
   obtain ⟨f',n'⟩:=b
   simp [zQs] at h
   have h1:f=f':=by omega
   rw [h1,h.2]
open Classical in
noncomputable def zJf(ss:Nat)(v:Value):Option (DataW Unit × List MemPlace):=if h:∃ o,v=ordV ss o then some (zQs h.choose,[]) else none
theorem zVe(ss:Nat)(o:Option (Nat × Int)):zJf ss (ordV ss o)=some (zQs o,[]):=by
 unfold zJf
 have h:∃ o',ordV ss o=ordV ss o':=⟨o,rfl⟩
 rw [dif_pos h,<-yPs h.choose_spec]
theorem yDl{ss:Nat}{v:Value}{d:DataW Unit}{ps:List MemPlace}(h:zJf ss v=some (d,ps)):∃ o,v=ordV ss o/\d=zQs o:=by
 unfold zJf at h
 split at h
 ·rename_i q
  simp at h
  exact ⟨_,q.choose_spec,h.1.symm⟩
 ·cases h
def ordF:List (List UInt8 × Nat × Int)->DataW Unit
 | []=>.map []
 | x :: t=>(ordF t).put (.string x.1) (zQs (some x.2))
def zPl(k:ByteArray):Option (Nat × Int):=(ordR.find? fun x=>x.1 == k.data.toList).map (·.2)
theorem zXu:∀ l,IsMap (ordF l)
 | []=>⟨[],rfl⟩
 | x :: t=>by
  obtain ⟨es,h⟩:=zXu t
  unfold ordF
  rw [h]
  exact ⟨_,rfl⟩
theorem yLl(k:List UInt8):∀ l,(ordF l).atKey (.string k) (zQs none)=zQs ((l.find? fun x=>x.1 == k).map (·.2))
 | []=>rfl
 | x :: t=>by
  unfold ordF
  by_cases h:x.1=k
  ·rw [<-h,atKey_put_same (zXu t) (by simp [WideAt.IsKeyLit])]
   simp
  ·rw [atKey_put_other (fun q=>h (by simpa using q.symm)),yLl k t,List.find?_cons,beq_eq_false_iff_ne.2 h]
theorem yFl(k:List UInt8):∀ l,Maps.has (ordF l) (.string k)=((l.find? fun x=>x.1 == k).map (·.2)).isSome
 | []=>rfl
 | x :: t=>by
  unfold ordF
  by_cases h:x.1=k
  ·rw [<-h,has_put_same (zXu t) (by simp [WideAt.IsKeyLit])]
   simp
  ·rw [has_put_other (fun q=>h (by simpa using q.symm)),yFl k t,List.find?_cons,beq_eq_false_iff_ne.2 h]
def OrdP(w:World)(ss mb:Nat):Prop:=w.ownsMap Tryz.prog 9 (zJf ss) mb 18 (ordF ordR)
theorem OrdP.mod{G:Nat->Prop}{w w':World}{ss mb:Nat}(h:OrdP w ss mb)(hm:Mod G w w')(hG:¬ G mb):OrdP w' ss mb:=by
 have hlt:=World.ownsMap.lt h
 obtain ⟨es,clock,hb,r⟩:=h
 exact ⟨es,clock,(hm.block mb hlt hG).trans hb,r⟩
theorem kStrD:Keyed Tryz.prog 9:=string_keyed Tryz.underlying9
theorem ySi(ss:Nat)(w:World):(zeroValue 48).run Tryz.prog w=.ok (ordV ss none) w:=by kernel_rfl
theorem OrdP.look{w:World}{ss mb:Nat}(h:OrdP w ss mb)(k:ByteArray)(hk:k.size<=1000000) :
  (Instr.lookup 43 (.map (some mb)) (.string k) true).run Tryz.prog w=.ok (.tuple #[ordV ss (zPl k),.bool (zPl k).isSome]) w:=by
 obtain ⟨v,ps,hrun,hv⟩:=World.ownsMap.look_ok h kStrD Tryz.underlying43 (ySi ss w) (zVe ss none) (Go.WideMaps.keyOf_string_mk Tryz.underlying9 (show k.size<=maxLen by unfold maxLen;omega))
 obtain ⟨o,rfl,ho⟩:=yDl hv
 rw [yLl] at ho
 have e:=yMy ho
 rw [yFl] at hrun
 rw [<-e] at hrun
 exact hrun
end Go.Proofs.YtogaigioeohjaaaGreatDoor
namespace Go.Proofs.YtogaigioeohjaaaGreatDoor
def okW(ws:List zAz):Prop:=∀ p∈ws,p.val.size<=40
def okN(n:zAl):Prop:=∀ c∈n.log,okW c.writes
def okM(ms:List MsgD):Prop:=∀ m∈ms,okW m.cmd.writes
theorem okW.nil:okW []:=fun p hp=>by cases hp
theorem okM.nil:okM []:=fun p hp=>by cases hp
structure Shrt(s:zAa):Prop where
 tx:∀ t∈s.txs,okW t.writes
 nd:∀ l∈s.lines,∀ n∈l.nodes,okN n
 wy:okM s.net.way
theorem okN.zero:okN ⟨0,0,[],[],0⟩:=fun c hc=>by cases hc
section
variable {s:zAa}
theorem Shrt.at(h:Shrt s)(id:Nat):okW (s.tx id).writes:=by
 unfold zAa.tx
 rw [List.getD_eq_getElem?_getD]
 cases e:s.txs[id - 1]? with
 | none=>exact okW.nil
 | some t=>exact h.tx t (List.mem_of_getElem? e)
theorem Shrt.ofLine(h:Shrt s)(k:Nat):∀ n∈(s.line k).nodes,okN n:=by
 unfold zAa.line
 rw [List.getD_eq_getElem?_getD]
 cases e:s.lines[k]? with
 | none=>exact fun n hn=>by cases hn
 | some l=>exact h.nd l (List.mem_of_getElem? e)
theorem Shrt.node(h:Shrt s)(k j:Nat):okN (zAo s k j):=by
 unfold zAo
 rw [List.getD_eq_getElem?_getD]
 cases e:(s.line k).nodes[j]? with
 | none=>exact okN.zero
 | some n=>exact h.ofLine k n (List.mem_of_getElem? e)
theorem Shrt.setTx(h:Shrt s)(id:Nat){t:TxS}(ht:okW t.writes):Shrt (setTx s id t):=
 ⟨fun u hu=>(List.mem_or_eq_of_mem_set hu).elim (h.tx u) (fun e=>e ▸ ht),h.nd,h.wy⟩
theorem Shrt.setLine(h:Shrt s)(k:Nat){l:zCs}(hl:∀ n∈l.nodes,okN n):Shrt (setLine s k l):=
 ⟨h.tx,fun u hu=>(List.mem_or_eq_of_mem_set hu).elim (h.nd u) (fun e=>e ▸ hl),h.wy⟩
theorem Shrt.setNode(h:Shrt s)(k j:Nat){n:zAl}(hn:okN n):Shrt (setNode s k j n):=
 h.setLine k (fun u hu=>(List.mem_or_eq_of_mem_set hu).elim (h.ofLine k u) (fun e=>e ▸ hn))
theorem okM.sendOne{w:NetS}(h:okM w.way){m:MsgD}(hm:okW m.cmd.writes):okM (zFe w m).way:=by
 unfold zFe
 split
 ·exact h
 ·intro x hx
  rcases List.mem_append.1 hx with q | q
  ·exact h x q
  ·rw [List.mem_singleton.1 q];exact hm
theorem okM.sendAll:∀ {ms:List MsgD} {w:NetS},okM w.way->okM ms->okM (zFd w ms).way
 | [],_,h,_=>h
 | m :: ms,_,h,hm=>okM.sendAll (ms:=ms) (h.sendOne (hm m (List.mem_cons_self ..))) (fun x hx=>hm x (List.mem_cons_of_mem _ hx))
theorem Shrt.send(h:Shrt s){ms:List MsgD}(hm:okM ms):Shrt (zLb s ms):=⟨h.tx,h.nd,h.wy.sendAll hm⟩
theorem Shrt.keys(h:Shrt s)(f:Tab):Shrt { s with keys:=f }:=⟨h.tx,h.nd,h.wy⟩
theorem Shrt.finish(h:Shrt s)(id:Nat)(st:Int):Shrt (zDe s id st):=(h.setTx id (t:={ s.tx id with state:=st,writes:=[] }) okW.nil).keys _
theorem Shrt.abort(h:Shrt s)(id:Nat):Shrt (zBh s id):=by
 unfold zBh
 split
 ·exact (h.setTx id (t:={ s.tx id with ats:=(s.tx id).ats.map fun _=>0 }) (h.at id)).finish id 4
 ·exact h.finish id 4
theorem Shrt.fold{α:Type}{f:zAa->α->zAa}(hf:∀ s a,Shrt s->Shrt (f s a)):∀ (l:List α) {s:zAa},Shrt s->Shrt (l.foldl f s)
 | [],_,h=>h
 | a :: l,_,h=>Shrt.fold hf l (hf _ a h)
theorem Shrt.wound(h:Shrt s)(ids:List Int):Shrt (zBz s ids):=Shrt.fold (fun s i h=>by
 split
 ·exact h.abort _
 ·exact h) ids h
theorem Shrt.locked(h:Shrt s)(id:Int)(key:ByteArray)(mode:Int):Shrt (zAw s id key mode).1:=h.keys _
theorem Shrt.lock2(h:Shrt s)(id:Int)(key:ByteArray)(mode:Int):Shrt (zBs s id key mode).1:=by
 unfold zBs
 simp only
 split
 ·exact ((h.locked id key mode).wound _).locked _ _ _
 ·exact h.locked _ _ _
theorem Shrt.came(h:Shrt s)(id k:Nat):Shrt (zIs s id k):=h.setTx id (h.at id)
theorem Shrt.lock(h:Shrt s)(id:Int)(key:ByteArray)(mode:Int):Shrt (zBw s id key mode).1:=by
 unfold zBw
 simp only
 split
 ·exact h.lock2 _ _ _
 split
 ·exact h.lock2 _ _ _
 ·exact ((h.lock2 _ _ _).came _ _).wound _
theorem Shrt.get(h:Shrt s)(id:Int)(key:ByteArray):Shrt (getH s id key).1:=by
 unfold getH
 split
 ·exact h
 ·simp only
  split
  ·exact h.lock _ _ _
  ·exact h.lock _ _ _
theorem okW.write{t:TxS}(h:okW t.writes){p:zAz}(hp:p.val.size<=40):okW (zEq t p).writes:=by
 unfold zEq
 split
 ·exact fun q hq=>(List.mem_or_eq_of_mem_set hq).elim (h q) (fun e=>e ▸ hp)
 ·exact fun q hq=>(List.mem_append.1 hq).elim (h q) (fun e=>by rw [List.mem_singleton.1 e];exact hp)
theorem Shrt.put(h:Shrt s)(id:Int)(p:zAz):Shrt (putH s id p).1:=by
 unfold putH
 split
 ·exact h
 rename_i hp
 split
 ·exact h
 split
 ·exact h
 ·simp only
  split
  ·exact h.lock _ _ _
  ·exact (h.lock _ _ _).setTx _ (((h.lock _ _ _).at _).write (by omega))
theorem Shrt.drop(h:Shrt s)(id:Int):Shrt (zEy s id).1:=by
 unfold zEy
 split
 ·exact h
 ·exact h.abort _
theorem yMz(h:Shrt s){id k:Nat}{time:Int}{c:CmdD}(hc:dueH s id k time=some c):okW c.writes:=by
 unfold dueH at hc
 simp only at hc
 split at hc
 ·split at hc
  ·cases hc;exact okW.nil
  ·cases hc
 split at hc
 ·cases hc
 split at hc
 ·cases hc;exact fun p hp=>h.at id p (List.mem_filter.1 hp).1
 split at hc
 ·cases hc;exact okW.nil
 split at hc
 ·cases hc;exact okW.nil
 ·cases hc
theorem okM.sendTo{n:zAl}{wh:Int}{m:MsgD}(hm:okW m.cmd.writes):okM (zGn n wh m):=by
 unfold zGn
 split
 ·exact okM.nil
 ·intro x hx;rw [List.mem_singleton.1 hx];exact hm
theorem okW.plain(k n:Int):okW (zCh k n).cmd.writes:=okW.nil
theorem zNo{n:zAl}(h:okN n):okN (zEd n).1/\okM (zEd n).2:=by
 unfold zEd
 split
 ·exact ⟨h,okM.sendTo (okW.plain _ _)⟩
 ·exact ⟨h,okM.sendTo (okW.plain _ _)⟩
theorem yMj{n:zAl}(h:okN n){c:CmdD}(hc:okW c.writes):okN (zFo n c).1/\okM (zFo n c).2:=by
 have h1:okN (logN n (n.log++[c])):=fun x hx=>(List.mem_append.1 hx).elim (h x) (fun e=>by rw [List.mem_singleton.1 e];exact hc)
 unfold zFo
 split
 ·exact zNo h1
 ·refine ⟨h1,?_⟩
  simp only
  split
  ·exact okM.nil
  ·intro x hx;rw [List.mem_singleton.1 hx];exact hc
theorem yOy{n:zAl}(h:okN n){m:MsgD}(hm:okW m.cmd.writes):okN (zCt n m).1/\okM (zCt n m).2:=by
 unfold zCt
 split
 ·split
  ·exact ⟨h,okM.sendTo (okW.plain _ _)⟩
  split
  ·refine ⟨h,?_⟩
   simp only
   unfold zOm
   split
   ·exact okM.nil
   ·intro x hx
    unfold fwdL at hx
    obtain ⟨j,_,rfl⟩:=List.mem_map.1 hx
    show okW (n.log.getD _ zHu).writes
    rw [List.getD_eq_getElem?_getD]
    cases e:n.log[(m.n.toNat+j)]? with
    | none=>exact okW.nil
    | some c=>exact h c (List.mem_of_getElem? e)
  split
  ·exact yMj h hm
  split
  ·exact ⟨h,okM.sendTo (okW.plain _ _)⟩
  ·exact ⟨h,okM.nil⟩
 ·exact ⟨h,okM.nil⟩
theorem Shrt.add(h:Shrt s)(k:Nat){c:CmdD}(hc:okW c.writes):Shrt (addH s k c):=by
 have h0:okN (zAp s k):=h.node k 0
 have:okN (addN (zAp s k) c).1/\okM (addN (zAp s k) c).2:=by
  unfold addN
  split
  ·exact yMj h0 hc
  ·exact ⟨h0,okM.nil⟩
 exact (h.setNode k 0 this.1).send this.2
theorem Shrt.tell1(h:Shrt s)(k:Nat)(log:List CmdD)(id:Nat):Shrt (tell1 s k log id):=by
 unfold Go.Proofs.YtogaigioeohjaaaGreatDoor.tell1
 split
 ·exact h
 ·rename_i c hc
  split
  ·exact h.add k (yMz h hc)
  ·exact h
theorem Shrt.tellAt(h:Shrt s)(k:Nat):Shrt (tellAt s k):=by
 unfold Go.Proofs.YtogaigioeohjaaaGreatDoor.tellAt
 split
 ·exact h
 ·exact Shrt.fold (fun s a h=>h.tell1 _ _ _) _ h
theorem Shrt.tell(h:Shrt s):Shrt (zEe s):=Shrt.fold (fun s a h=>h.tellAt a) _ h
theorem Shrt.follow(h:Shrt s)(k:Nat)(c:CmdD):Shrt (zBx s k c):=by
 unfold zBx
 split
 ·exact (h.setTx _ (t:={ s.tx c.tx.toNat with time:=c.time }) (h.at _)).finish _ _
 split
 ·exact h.setTx _ (h.at _)
 ·exact h
theorem Shrt.hearOne(h:Shrt s)(k:Nat)(c:CmdD):Shrt (hearOne k s c):=(h.follow k c).setLine k ((h.follow k c).ofLine k)
theorem Shrt.hear(h:Shrt s):Shrt (zHz s):=Shrt.fold (fun s k h=>Shrt.fold (fun s c h=>h.hearOne k c) _ h) _ h
theorem Shrt.settleF:∀ (n:Nat) {s:zAa},Shrt s->Shrt (settleF n s)
 | 0,_,h=>h
 | n+1,s,h=>by
  unfold Go.Proofs.YtogaigioeohjaaaGreatDoor.settleF
  split
  ·exact Shrt.settleF n h.hear.tell
  ·exact h
theorem Shrt.settle(h:Shrt s):Shrt (zCo s):=Shrt.settleF _ h
theorem Shrt.end_(h:Shrt s)(id:Int):Shrt (endH s id).1:=by
 unfold endH
 split
 ·exact h
 split
 ·exact h
 ·exact (h.setTx id.toNat (t:={ s.tx id.toNat with state:=2 }) (h.at _)).tell.settle
theorem Shrt.take(h:Shrt s)(k:Nat):Shrt (zBi s k):=⟨h.tx,h.nd,fun m hm=>h.wy m (List.mem_of_mem_eraseIdx hm)⟩
theorem Shrt.step(h:Shrt s)(k j:Nat){m:MsgD}(hm:okW m.cmd.writes):Shrt (zHv s k j m):=by
 have:=yOy (h.node k j) hm
 exact (h.setNode k j this.1).send this.2
theorem Shrt.deliver(h:Shrt s)(k:Nat):Shrt (zBb s k):=by
 unfold zBb
 split
 ·exact h
 ·rename_i m hm
  split
  ·exact h.take k
  ·exact ((h.take k).step _ _ (h.wy m (List.mem_of_getElem? hm))).settle
theorem Shrt.deliv(h:Shrt s)(k:Int):Shrt (if hasB s.net k then (zBb s k.toNat,(0:Int)) else (s,2)).1:=by
 split
 ·exact h.deliver _
 ·exact h
theorem Shrt.tick1(h:Shrt s)(k j:Nat):Shrt (tick1 k s j):=by
 unfold Go.Proofs.YtogaigioeohjaaaGreatDoor.tick1
 split
 ·exact (h.setNode k j (zNo (h.node k j)).1).send (zNo (h.node k j)).2
 ·exact h
theorem Shrt.tick(h:Shrt s):Shrt (zFm s):=Shrt.fold (fun s k h=>Shrt.fold (fun s j h=>h.tick1 k j) _ h) _ h
theorem Shrt.drainF:∀ (n:Nat) {s:zAa},Shrt s->Shrt (drainF n s)
 | 0,_,h=>h
 | n+1,s,h=>by
  unfold Go.Proofs.YtogaigioeohjaaaGreatDoor.drainF
  split
  ·exact h
  ·exact Shrt.drainF n (h.deliver 0)
theorem Shrt.calmF:∀ (n:Nat) {s:zAa},Shrt s->Shrt (calmF n s)
 | 0,_,h=>h
 | n+1,s,h=>by
  have h4:Shrt (calm1 s):=Shrt.drainF _ (Shrt.drainF _ (Shrt.drainF _ (Shrt.drainF _ h.tick).tick).tick).tick
  unfold Go.Proofs.YtogaigioeohjaaaGreatDoor.calmF
  split
  ·exact h4
  ·exact Shrt.calmF n h4
theorem Shrt.calm(h:Shrt s):Shrt (zKl s):=Shrt.calmF _ h
theorem ySc{n:zAl}(h:okN n)(ep:Int)(ns:List Int):okN (becN n ep ns):=by
 unfold becN
 split
 ·exact fun c hc=>by cases hc
 ·exact h
theorem zWk{l:zCs}(h:∀ n∈l.nodes,okN n):(∀ n∈(zBy l).1.nodes,okN n)/\okM (zBy l).2:=by
 refine ⟨fun n hn=>?_,fun m hm=>?_⟩
 ·obtain ⟨x,hx,rfl⟩:=List.mem_map.1 hn
  exact (zNo (ySc (h x hx) _ _)).1
 ·obtain ⟨x,hx,hq⟩:=List.mem_flatMap.1 hm
  exact (zNo (ySc (h x hx) _ _)).2 m hq
theorem Shrt.forsake(h:Shrt s)(k:Nat):Shrt (zDt s k):=Shrt.fold (fun s i h=>by
 split
 ·exact h.abort _
 ·exact h) _ h
theorem Shrt.fixAt(h:Shrt s)(k:Nat):Shrt (fixAt s k):=by
 unfold Go.Proofs.YtogaigioeohjaaaGreatDoor.fixAt
 split
 ·exact h
 ·have:=zWk (l:=⟨zAk s k,(s.line k).heard⟩) (fun n hn=>h.ofLine k n (List.mem_filter.1 hn).1)
  exact ((h.setLine k this.1).send this.2).forsake k
theorem Shrt.fix(h:Shrt s):Shrt (fixH s):=(Shrt.fold (fun s k h=>h.fixAt k) _ h).tell.settle
theorem Shrt.fail(h:Shrt s)(id:Int):Shrt (zEo s id).1:=by
 unfold zEo
 split
 ·exact h
 ·exact ⟨h.tx,h.nd,fun m hm=>h.wy m (List.mem_filter.1 hm).1⟩
theorem Shrt.lose(h:Shrt s)(k:Int):Shrt (zEn s k).1:=by
 unfold zEn
 split
 ·exact ⟨h.tx,h.nd,fun m hm=>h.wy m (List.mem_of_mem_eraseIdx hm)⟩
 ·exact h
theorem Shrt.twice(h:Shrt s)(k:Int):Shrt (zCe s k).1:=by
 unfold zCe
 split
 ·rename_i m _ hm
  split
  ·exact ⟨h.tx,h.nd,h.wy.sendOne (h.wy m (List.mem_of_getElem? hm))⟩
  ·exact h
 ·exact h
theorem Shrt.begin(h:Shrt s):Shrt (zGk s):=⟨fun t ht=>(List.mem_append.1 ht).elim (h.tx t) (fun e=>by rw [List.mem_singleton.1 e];exact okW.nil),h.nd,h.wy⟩
theorem Shrt.newF(nodes:Nat):∀ k,Shrt (newF nodes k)
 | 0=>⟨fun t ht=>(by cases ht),fun l hl=>(by cases hl),okM.nil⟩
 | k+1=>by
  have h:=Shrt.newF nodes k
  have:=zWk (l:=⟨(List.range nodes).map fun (i:Nat)=>zPn (10*(k:Int)+(i:Int)),0⟩) (fun n hn=>by
   obtain ⟨i,_,rfl⟩:=List.mem_map.1 hn
   exact fun c hc=>by cases hc)
  exact ⟨h.tx,fun l hl=>(List.mem_append.1 hl).elim (h.nd l) (fun e=>by rw [List.mem_singleton.1 e];exact this.1),h.wy.sendAll this.2⟩
theorem Shrt.new(shards nodes:Nat):Shrt (newH shards nodes):=Shrt.newF nodes _
theorem Shrt.value(h:Shrt s)(id:Int)(key:ByteArray):(getH s id key).2.1.size<=40:=by
 unfold getH
 split
 ·simp
 ·simp only
  split
  ·simp
  ·have hl:=(h.lock id key 1).at id.toNat
   have hn:okN ((s.line (zAv s key)).nodes.getD 0 ⟨0,0,[],[],0⟩):=h.node _ 0
   simp only
   unfold seesH
   split
   ·simp
   ·rename_i p hp
    have hm:=List.mem_of_find?_eq_some hp
    split
    ·simp
    ·rcases List.mem_append.1 hm with q | q
     ·exact hl p (List.mem_reverse.1 q)
     ·obtain ⟨c,_,hq⟩:=List.mem_flatMap.1 q
      rw [List.mem_reverse,List.getD_eq_getElem?_getD] at hq
      cases e:((s.line (zAv s key)).nodes.getD 0 ⟨0,0,[],[],0⟩).log[(zDl ((s.line (zAv s key)).nodes.getD 0 ⟨0,0,[],[],0⟩).log 2 c.tx).getD 0]? with
      | none=>rw [e] at hq;cases hq
      | some d=>rw [e] at hq;exact hn d (List.mem_of_getElem? e) p hq
end
end Go.Proofs.YtogaigioeohjaaaGreatDoor
namespace Go.Proofs.YtogaigioeohjaaaGreatDoor
open Go.RowKit Go.Lib Go.Maps
abbrev DoR:=zAa × Int × ByteArray
def zCd(s:zAa)(x:ByteArray)(f:Int->DoR):DoR:=match numD x with
 | some v=>f v
 | none=>(s,3,ByteArray.empty)
def wAt(ws:List ByteArray)(i:Nat):ByteArray:=ws.getD i ByteArray.empty
def zQd(n:Int):ByteArray:=if n=1 then ⟨#[111,112,101,110]⟩ else if n=2 then ⟨#[101,110,100,105,110,103]⟩ else if n=3 then ⟨#[99,111,109,109,105,116,116,101,100]⟩ else if n=4 then ⟨#[97,98,111,114,116,101,100]⟩ else ⟨#[110,111,110,101]⟩
def zEl(s:zAa)(k:Int):zAa × Int:=if hasB s.net k then (zBb s k.toNat,0) else (s,2)
def begD(s:zAa):DoR:=if s.txs.length<60 then (zGk s,0,strB (Lib.itoa (s.txs.length+1))) else (s,4,ByteArray.empty)
def zXw(a b:Int):Bool:=decide (1<=a) && decide (a<=4) && decide (1<=b) && decide (b<=4)
def newD(s:zAa)(a b:Int):zAa × Int:=if zXw a b then (newH a.toNat b.toNat,0) else (s,2)
def yIf:ByteArray:=⟨#[97,108,105,118,101,32,98,101,103,105,110,32,99,97,108,109,32,100,101,108,32,100,101,108,105,118,101,114,32,100,114,111,112,32,101,110,100,32,102,97,105,108,32,102,105,120,32,103,101,116,32,104,101,108,112,32,108,111,115,101,32,110,101,119,32,112,117,116,32,115,104,97,114,100,32,115,116,97,116,101,32,116,105,99,107,32,116,119,105,99,101]⟩
noncomputable def runD(f:Nat)(s:zAa)(ws:List ByteArray):DoR:=
 if f=13 then (s,0,strB (Lib.formatBool (zTo s)))
 else if f=14 then begD s
 else if f=15 then (zKl s,0,wAt ws 0)
 else if f=16 then zCd s (wAt ws 1) fun v=>((putH s v ⟨wAt ws 2,⟨#[]⟩,true⟩).1,(putH s v ⟨wAt ws 2,⟨#[]⟩,true⟩).2,wAt ws 0)
 else if f=17 then zCd s (wAt ws 1) fun v=>((zEl s v).1,(zEl s v).2,wAt ws 0)
 else if f=18 then zCd s (wAt ws 1) fun v=>((zEy s v).1,(zEy s v).2,wAt ws 0)
 else if f=19 then zCd s (wAt ws 1) fun v=>((endH s v).1,(endH s v).2,wAt ws 0)
 else if f=20 then zCd s (wAt ws 1) fun v=>((zEo s v).1,(zEo s v).2,wAt ws 0)
 else if f=21 then (fixH s,0,wAt ws 0)
 else if f=22 then zCd s (wAt ws 1) fun v=>((getH s v (wAt ws 2)).1,(getH s v (wAt ws 2)).2.2.2,if (getH s v (wAt ws 2)).2.2.1 then ⟨#[105,115,32]⟩++(getH s v (wAt ws 2)).2.1 else ⟨#[110,111,110,101]⟩)
 else if f=23 then (s,0,yIf)
 else if f=24 then zCd s (wAt ws 1) fun v=>((zEn s v).1,(zEn s v).2,wAt ws 0)
 else if f=25 then zCd s (wAt ws 1) fun v=>zCd s (wAt ws 2) fun u=>((newD s v u).1,(newD s v u).2,wAt ws 0)
 else if f=26 then zCd s (wAt ws 1) fun v=>((putH s v ⟨wAt ws 2,wAt ws 3,false⟩).1,(putH s v ⟨wAt ws 2,wAt ws 3,false⟩).2,wAt ws 0)
 else if f=27 then (s,0,strB (Lib.itoa (zAv s (wAt ws 1))))
 else if f=28 then zCd s (wAt ws 1) fun v=>(s,0,zQd (zGf s v))
 else if f=29 then (zFm s,0,wAt ws 0)
 else zCd s (wAt ws 1) fun v=>((zCe s v).1,(zCe s v).2,wAt ws 0)
def ySl(r:DoR):ByteArray:=if r.2.1=0 then r.2.2 else zGy r.2.1
noncomputable def zDp(s:zAa)(line:ByteArray):zAa × ByteArray:=
 if zBr line=[] then (s,⟨#[111,107]⟩) else match zPl (wAt (zBr line) 0) with
 | none=>(s,zGy 3)
 | some (f,n)=>if ((zBr line).length:Int) - 1=n then ((runD f s (zBr line)).1,ySl (runD f s (zBr line))) else (s,zGy 3)
structure SesP(w:World)(ss mb n c g:Nat)(y:HLay)(s:zAa):Prop where
 blk:Blk w ss [.pointer (some ⟨g,0,none⟩),.map (some mb)] 45
 map:OrdP w ss mb
 house:zAe w n c g y s
 nos:y.own ss=.no
 nom:y.own mb=.no
 n7:n=7
 lo:7<=ss/\7<=mb
 vd:VD w
structure SesI(m c:Nat)(s:zAa):Prop where
 rest:Rest s
 lost:s.net.lost<=2000000000000000*m
 dead:s.dead.length<=m
 down:s.net.down.length<=m
 txs:s.txs.length<=60
 c:c<=2*m
 sh:Shrt s
def ses(ss:Nat)(y:HLay)(k:Nat):Prop:=k=ss\/y.own k≠.no
def SesR(ss mb m:Nat)(w:World)(y:HLay)(s':zAa)(w':World):Prop:=
 ∃ n' c' g' y',SesP w' ss mb n' c' g' y' s'/\SesI (m+1) c' s'/\Mod (ses ss y) w w'/\∀ k,k<w.heap.size->y.own k=.no->y'.own k=.no
def DoP(ss mb m:Nat)(w:World)(y:HLay)(r:DoR)(e:Ending)(w':World):Prop:=(e=if r.2.1=0 then .returned (.string r.2.2) else zCv r.2.1)/\SesR ss mb m w y r.1 w'
section
variable {w w':World} {ss mb m n c g:Nat} {y y':HLay} {s s':zAa}
theorem SesP.quiet(h:SesP w ss mb n c g y s)(hm:Mod zAb w w'):SesP w' ss mb n c g y s:=
 ⟨h.blk.mod hm id,h.map.mod hm id,h.house.quiet hm,h.nos,h.nom,h.n7,h.lo,h.vd.quiet hm⟩
theorem SesP.call{c':Nat}(h:SesP w ss mb n c g y s)(hH:zAe w' n c' g y' s')(hs:zFi w y w' y'):SesP w' ss mb n c' g y' s':=by
 refine ⟨hs.blk h.blk h.nos,h.map.mod hs.md (fun e=>e h.nom),hH,(hs.old _ h.blk.lt).trans h.nos,(hs.old _ (World.ownsMap.lt h.map)).trans h.nom,h.n7,h.lo,h.vd.mod hs.md (fun k hk e=>?_)⟩
 have:=(h.house.own.lt k e).1
 have:=h.n7
 omega
theorem SesI.of(h:SesI m c s)(hr:Rest s')(hc:Cost s s')(ht:s'.txs.length<=60)(hs:Shrt s'){c':Nat}(hcc:c'<=c+2):SesI (m+1) c' s':=by
 have h1:=h.lost
 have h2:=h.dead
 have h3:=h.down
 have h4:=h.c
 have h5:=hc.lost
 have h6:=hc.dead
 have h7:=hc.down
 exact ⟨hr,by omega,by omega,by omega,ht,by omega,hs⟩
theorem SesI.act(h:SesI m c s)(ha:zCz s s')(hs:Shrt s'){c':Nat}(hcc:c'<=c+2):SesI (m+1) c' s':=h.of ha.rest ha.cost (by rw [ha.tl];exact h.txs) hs hcc
theorem SesI.same(h:SesI m c s):SesI (m+1) c s:=h.act (zCz.refl h.rest) h.sh (by omega)
theorem SesI.small(h:SesI m c s)(hm:m<=900):s.net.lost<=3000000000000000000:=by have:=h.lost;omega
theorem SesP.still(h:SesP w ss mb n c g y s)(hi:SesI m c s)(hm:Mod zAb w w'):SesR ss mb m w y s w':=
 ⟨n,c,g,y,h.quiet hm,hi.same,hm.mono (fun _ _ e=>e.elim),fun _ _ e=>e⟩
theorem SesP.acted{w1:World}{c':Nat}(h:SesP w ss mb n c g y s)(hi:SesI (m+1) c' s')(h1:Mod zAb w w1)(hH:zAe w' n c' g y' s')(hs:zFi w1 y w' y'){w2:World}(h2:Mod zAb w' w2):SesR ss mb m w y s' w2:=by
 refine ⟨n,c',g,y',((h.quiet h1).call hH hs).quiet h2,hi,?_,fun k hk e=>(hs.old k (Nat.lt_of_lt_of_le hk h1.size)).trans e⟩
 refine (h1.mono (fun _ _ e=>e.elim)).trans' (hs.md.trans' (G':=zAb) h2 (fun _ _ e=>e.elim)) (fun k _ e=>.inr e)
theorem zQn.ses(h:SesP w ss mb n c g y s)(hi:SesI m c s)(hm:m<=900):zQn w n c s:=
 ⟨hi.rest.c.safe.shape,hi.rest.c.held.ki,h.vd.et,by have:=h.n7;omega,by have:=hi.c;omega⟩
end
end Go.Proofs.YtogaigioeohjaaaGreatDoor
