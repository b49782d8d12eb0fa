import Derived.Test.YtmaiggbnceejiaaGreatDoorS27
import Derived.Test.YtmaiggbnceejiaaGreatDoorS20
import Derived.Test.YtmaiggbnceejiaaGreatDoorS25
set_option linter.unusedVariables false
set_option maxRecDepth 100000
set_option maxHeartbeats 16000000
namespace Go.Proofs.YtmaiggbnceejiaaGreatDoor
open Go.RowKit Go.Lib Go.Maps
def Mb(d:Nat):List Value:=[.slice none 0 0,.map (some d),.slice none 0 0,.int .i64 0,.map none,.map none,.slice none 0 0]
def qY(g d:Nat):dY:=⟨.slice none 0 0,d,.slice none 0 0,none,.slice none 0 0,[],fun _=>.slice none 0 0,fun _=>[],fun _=>.slice none 0 0,fun _=>.slice none 0 0,[],fun _=>.slice none 0 0,fun _=>.slice none 0 0,⟨g,[],[],84,none,0,fun _ _=>.slice none 0 0⟩,fun x=>if x=g then .main else if x=d then .dead else .no⟩
theorem dx.bare(w:World)(n c nodes:Nat)(hn:n<=w.heap.size):dx ((w.alloc (.map #[] 0)).alloc (.cells (Mb w.heap.size).toArray 84)) n c (w.heap.size+1) (qY (w.heap.size+1) w.heap.size) (gY nodes 0):=by
 have hz:(w.alloc (.map #[] 0)).heap.size=w.heap.size+1:=World.size_alloc _ _;have hB:dg ((w.alloc (.map #[] 0)).alloc (.cells (Mb w.heap.size).toArray 84)) (w.heap.size+1) (Mb w.heap.size) 84:=by
  have:=dg.new (w.alloc (.map #[] 0)) (Mb w.heap.size) 84;rw [hz] at this;exact this
 have hsz:((w.alloc (.map #[] 0)).alloc (.cells (Mb w.heap.size).toArray 84)).heap.size=w.heap.size+1+1:=by rw [World.size_alloc,hz]
 have OJ:=World.ownsMap_made (H:=Unit) w Tryz.prog 3 unitElem;refine ⟨hB,⟨eV.nil _ _,.inl ⟨rfl,rfl⟩,by simp [gY],by simp [gY]⟩,?_,⟨fun k hk=>⟨fun _=>rfl,rfl,rfl⟩,fun k i hk=>.inl rfl,fun k i hk=>?_,fun k k' i i' x _ _ h1 _=>by simp [qY,Value.ownBlock] at h1,fun k hk=>mu.nil,fun k hk=>by simp [gY]⟩,⟨rfl,rfl,aT _⟩,World.ownsRow_nil _ _ _ _,rfl,fun k b l hb=>by simp [qY] at hb,World.ownsRow_nil _ _ _ _,rfl,fun i b t hb=>by simp [qY] at hb,?_⟩
 ·refine .inr ⟨w.heap.size,.map [],rfl,hn,?_,fun x _=>by simp [Maps.has,gY]⟩;obtain ⟨es,clock,h1,h2⟩:=OJ;refine ⟨es,clock,?_,h2⟩;rw [heap_alloc_old _ _ (by rw [hz];omega)];exact h1
 ·cases i <;> exact World.ownsRow_nil _ _ _ _
 ·refine ⟨by simp [qY],fun k hk=>by simp [qY,Value.ownBlock] at hk,fun k hk=>by simp [qY,Value.ownBlock] at hk,fun k hk=>by simp [qY,Value.ownBlock] at hk,by simp [qY],fun k hk=>?_,fun b hb=>by simp [qY] at hb,fun b hb=>by simp [qY] at hb,fun b hb=>by simp [qY] at hb,fun k hk=>?_,by simp [qY],by simp [qY],by simp [qY]⟩
  ·rcases hk with hk | ⟨z,i,_,hk⟩
   ·simp [qY] at hk
   ·simp [qY,Value.ownBlock] at hk
  ·have:k=w.heap.size+1\/k=w.heap.size:=by
    simp only [qY] at hk;by_cases e1:k=w.heap.size+1
    ·exact .inl e1
    ·by_cases e2:k=w.heap.size
     ·exact .inr e2
     ·rw [aK e1,aK e2] at hk;exact absurd rfl hk
   rw [hsz];rcases this with e | e <;> omega
theorem yBw(nodes:Nat)(h4:nodes<=4):∀ m,0<=(gY nodes m).net.lost/\(gY nodes m).net.lost<=4*m
 | 0=>by simp [gY]
 | m+1=>by
  have ih:=yBw nodes h4 m;have h1:=Cm (oD m nodes).2 (gY nodes m).net;have h2:(oD m nodes).2.length<=(iu m nodes).length:=RZ ⟨iu m nodes,0⟩;have h3:(iu m nodes).length=nodes:=by simp [iu]
  show 0<=(ly (gY nodes m).net (oD m nodes).2).lost/\(ly (gY nodes m).net (oD m nodes).2).lost<=_;omega
theorem Tryz.Hk:(Tryz.prog.info? 102).map (fun i=>(i.zero,i.size,i.bytes))=some (some (.pointer none),1,8):=by kernel_rfl
theorem yNu(n c shards nodes:Nat)(w:World)(h1:1<=shards/\shards<=4)(h2:1<=nodes/\nodes<=4)(hn:n<=w.heap.size) :
  Calls Tryz.prog 19 #[.int .i64 shards,.int .i64 nodes] w fun e w'=>∃ g y,e=.returned (.tuple #[.pointer (some ⟨g,0,none⟩),.nilIface])/\dx w' n c g y (fq shards nodes)/\w.heap.size<=g/\Mod dZ w w'/\(∀ k,k<w.heap.size->y.own k=.no):=by
 obtain ⟨i0,hi,hz0,hz1,hz2⟩:=info_parts Tryz.Hk;have hmm:=@run_makeMap Tryz.prog;obtain ⟨g,hg⟩:∃ g,g=w.heap.size+1:=⟨_,rfl⟩;have kY:=dx.bare w n c nodes hn;rw [<-hg] at kY;obtain ⟨w1,hw1⟩:∃ x,x=(w.alloc (.map #[] 0)).alloc (.cells #[.slice none 0 0,.map (some w.heap.size),.slice none 0 0,.int .i64 0,.map none,.map none,.slice none 0 0] 84):=⟨_,rfl⟩;have hb1:dx w1 n c g (qY g w.heap.size) (gY nodes 0):=by rw [hw1];exact kY
 have dh:Mod dZ w w1:=by rw [hw1];exact ((Mod.refl _ w).alloc _).alloc _
 have NX:w1=(w.alloc (.map #[] 0)).alloc (.cells #[.slice none 0 0,.map (some w.heap.size),.slice none 0 0,.int .i64 0,.map none,.map none,.slice none 0 0] 84):=hw1;have kA:=dV hb1;have fJ:=dV dh;have Sv:Hid (∀ k,k<w.heap.size->(qY g w.heap.size).own k=.no):=fun k hk=>by simp only [qY];rw [aK (by omega),aK (by omega)]
 have hs1:decide ((shards:Int)<1)=false:=aL (by omega);have hs4:decide ((shards:Int) > 4)=false:=aL (by omega);have yx:decide ((nodes:Int)<1)=false:=aL (by omega);have hn4:decide ((nodes:Int) > 4)=false:=aL (by omega);clear kY hb1 dh;go_enter Tryz.func19,Tryz.ntmps19;go_upto_region 4 with fail;rw [<-NX,<-hg];have HG:=dV hg;clear hw1 NX hmm hg;go_wp2_with fail;go_loopw [30] (fun k0 wr=>∃ (k:Nat) (yr:dY),k<=shards+1/\k0=.int .i64 k/\dx wr n c g yr (gY nodes k)/\Mod dZ w wr/\∀ z,z<w.heap.size->yr.own z=.no) (fun k0 _=>shards+1 - (intOf k0).toNat)
 case atStart=>exact ⟨0,_,aT _,rfl,kA.out,fJ.out,Sv.out⟩
 case round=>
  obtain ⟨k,yr,hkl,rfl,hH,hM,hO⟩:=hrel;obtain ⟨wo,hwo⟩:∃ x,x=wr:=⟨_,rfl⟩;subst hwo;by_cases hlt:k<shards+1
  ·have Aa:=yBw nodes h2.2 k;have hll:(gY nodes k).lines.length=k:=by rw [RS];simp
   have LS:=dV (yFl (yr.lo n) k nodes wo (by omega) h2.1 h2.2 (aJ hn hM.size) (fun z hz=>VJ hH.own z hz));have wW:(oD k nodes).2.length<=nodes:=by
    have q1:(oD k nodes).2.length<=(iu k nodes).length:=RZ ⟨iu k nodes,0⟩;have q2:(iu k nodes).length=nodes:=by simp [iu]
    omega
   have Sw:Hid (gY nodes (k+1)=sg { gY nodes k with lines:=(gY nodes k).lines++[(oD k nodes).1] } (oD k nodes).2):=rfl;have xu:(k:Int)<(shards:Int)+1:=by omega
   have qs:(0:Int)<=(k:Int):=by omega
   have hgl:=hH.blk.lt;have jH:=dV hH;have JS:=dV hM;have Zf:=dV hO;clear hH hM hO;generalize gY nodes k=S at jH Sw Aa hll;go_upto_region 8 with (first
    | (go_at_call 47;refine LS.out.mono ?_;rintro e w2 ⟨b,bs,nv,lf,rv,v,rfl,qX⟩;obtain ⟨va,vc,lI⟩:=qX.msg.slice;subst lI)
    | fail)
   have mX:=jH.out.quiet qX.md;obtain ⟨c0,-⟩:=kF mX.blk;have f0:=mX.blk.frozen 0;have hg2:=mX.blk.lt;have kD:=mX.low;obtain ⟨la,ey,hlv⟩:=eu mX.fi;have hlen:=mX.iQ;rw [hll] at hlen;rw [hlv,hlen] at c0;have hrow:w2.ownsRow n 102 1 (.slice la k ey) k (yr.gF.map jC):=by have:=mX.fi;rw [hlv,hlen] at this;exact this
   have kg:Mod dZ w2 (w2.alloc (.cells #[.pointer (some ⟨b,0,none⟩)] 102)):=(Mod.refl _ w2).alloc _;obtain ⟨v7,w7,gg,eJ,eS,_,iq⟩:=run_append_own_at (P:=Tryz.prog) (w2.alloc (.cells #[.pointer (some ⟨b,0,none⟩)] 102)) n 74 74 102 i0 _ 1 8 Tryz.underlying74 hi hz0 hz1 hz2 rfl (by omega) _ _ _ (fm hrow kg (fun _ _ _ _ e=>e)) ⟨w2.heap.size,0,none⟩ 1 1 [.pointer (some ⟨b,0,none⟩)] rfl (World.news_of_block (heap_alloc_new w2 _)) (by simp [Value.oneCell']) (by unfold maxLen;omega) (by omega) (by have:=kg.size;omega);obtain ⟨a7,fE,py⟩:=eu eJ;subst py;have pE:Mod (fun z=>(Value.slice la k ey).ownBlock=some z) w2 w7:=((Mod.refl _ w2).alloc _).grown eS (fun x hx _=>hx);have hnb:(Value.slice la k ey).ownBlock≠some g:=oP hrow mX.blk (by decide);have c7:=pE.cell c0 hnb;have f7:=(pE.frozen (p:=⟨g,0,none⟩) hg2 hnb).trans f0;have Xu:=aH hg2 pE.size;have hrl:∀ z,(Value.slice la k ey).ownBlock=some z->z<wo.heap.size:=fun z hz=>(fW jH.out.fi (by rw [hlv,jH.out.iQ,hll];exact hz)).2.1;have HF:Hid (∃ y',dx (w7.setCell ⟨g,0,none⟩ (.slice a7 (k+1) fE)) n c g y' { S with lines:=S.lines++[(oD k nodes).1] }/\Mod dZ w (w7.setCell ⟨g,0,none⟩ (.slice a7 (k+1) fE))/\(∀ z,z<w.heap.size->y'.own z=.no)/\eV (w7.setCell ⟨g,0,none⟩ (.slice a7 (k+1) fE)) (y'.lo n) (.slice va (oD k nodes).2.length vc) (oD k nodes).2/\∀ z,(Value.slice va (oD k nodes).2.length vc).ownBlock=some z->y'.own z=.no):=by
    have ib:Mod (eA g) w7 (w7.setCell ⟨g,0,none⟩ (.slice a7 (k+1) fE)):=Mod.dt g 0 _;have FK:Mod (fun z=>z=g\/(Value.slice la k ey).ownBlock=some z) w2 (w7.setCell ⟨g,0,none⟩ (.slice a7 (k+1) fE)):=(pE.mono (fun z _ e=>.inr e)).trans (ib.mono (fun z _ e=>.inl e));have Wm:yr.lv=.slice la k ey:=by rw [hlv,hlen]
    have qW:Mod (fun z=>z=g\/yr.lv.ownBlock=some z) wo (w7.setCell ⟨g,0,none⟩ (.slice a7 (k+1) fE)):=(qX.md.mono (fun _ _ e=>e.elim)).trans (by rw [Wm];exact FK);have CN:dg w7 g (KA yr S.net.lost) 84:=mX.blk.mod pE hnb;have tD:=oP eJ CN (by decide);have AF:∀ z,(z=g\/(Value.slice la k ey).ownBlock=some z)->z<wo.heap.size:=fun z e=>e.elim (fun e=>by rw [e];exact hgl) (hrl z);have qx:=qX.bn;have hq:Qm w2 (yr.lo n) (fun z=>z=g\/(Value.slice la k ey).ownBlock=some z):=fun z hz e=>by
     rintro (e1 | ⟨⟨cur,fr,e1⟩,_⟩)
     ·have h8:z<n:=e1;rcases e with e | e
      ·omega
      ·have:=(fW hrow e).1;omega
     ·rcases e with e | e
      ·subst e;have:=mX.blk;unfold dg at this;rw [this] at e1;simp at e1
      ·obtain ⟨_,_,kh,h2⟩:=fW hrow e;rw [h2] at e1;simp at e1
    have AR:∀ z,rv.ownBlock=some z->wo.heap.size<=z:=fun z hz=>(fW qX.row hz).1;obtain ⟨y',r1,r2,r3,r4⟩:=jH.out.ZK (b:=b) (bs:=bs) (nv:=nv) (lf:=lf) (rv:=rv) (l:=(oD k nodes).1) (lv:=.slice a7 (k+1) fE) qW (CN.set 0 _) (by
      rw [show yr.gF.length=k from hlen,ay];exact fm eJ ib (fun z _ _ e q=>tD (by rw [e];exact ai some q))) (by
      rw [Wm];rcases iq with e | e
      ·exact .inl e
      ·exact .inr fun z hz=>by rw [e] at hz;simp only [ae] at hz;have:=qX.md.size;have:=kg.size;omega) qX.bn (qX.blk.mod FK (fun e=>by have:=AF b e;omega)) (uL (fm qX.row FK (fun z hz _ e q=>by have:=AF z q;have:=AR z e;omega)) (aJ hn JS.out.size)) AR (qX.node.mod FK hq (fun d hd z hz q=>by have:=qX.new d hd z hz;have:=AF z q;omega)) qX.new
    refine ⟨y',r1,JS.out.trans' r2.md (fun z hz e=>e (Zf.out z hz)),fun z hz=>by rw [r2.old z (aH hz JS.out.size)];exact Zf.out z hz,by rw [r3];exact qX.msg.mod FK hq (fun z hz q=>by have:=qX.fresh z hz;have:=AF z q;omega),fun z hz=>?_⟩;obtain ⟨_,cur,fN⟩:=(qX.msg.mod FK hq (fun z hz q=>by have:=qX.fresh z hz;have:=AF z q;omega)).block hz;refine r4 z (qX.fresh z hz) (fun e=>?_) (fun e=>?_) (fun e=>?_) (fun d hd q=>?_)
    ·obtain ⟨_,_,kh,h2⟩:=fW (fm eJ ib (fun z _ _ e q=>tD (by rw [e];exact ai some q))) e;rw [fN] at h2;simp at h2
    ·have h3:=qX.blk.mod FK (fun e=>by have:=AF b e;omega);unfold dg at h3;rw [<-e,fN] at h3;simp at h3
    ·obtain ⟨_,_,kh,h2⟩:=fW (fm qX.row FK (fun z hz _ e q=>by have:=AF z q;have:=AR z e;omega)) e;rw [fN] at h2;simp at h2
    ·exact qX.node.row qX.msg hd q hz
   clear qX mX hrow kg eJ eS iq pE hnb hlv jH JS Zf LS hrl kD hlen;go_upto_region 9 with (first
    | (at_builtin;refine MV rfl (ze (s:=.tmp 43) (x:=.tmp 45) (t:=74) rfl (by go_simp) (by go_simp) gg) ?_)
    | fail)
   obtain ⟨y8,uT,hM8,hO8,SZ,OE⟩:=HF.out;have pX:=dV (ME n c g y8 _ _ _ _ uT SZ OE (by show S.net.lost+_<=_;omega));have QI:=dV hM8;have HO8:=dV hO8;have hg8:=uT.blk.lt;clear uT hM8 hO8 SZ OE HF c0 f0 c7 f7 gg;go_wp2_with fail;refine pX.out.mono ?_;rintro e w9 ⟨⟨x9,rfl⟩,y9,Fg,Dm⟩;have HF9:Hid (dx w9 n c g y9 (gY nodes (k+1))/\Mod dZ w w9/\∀ z,z<w.heap.size->y9.own z=.no):=⟨by rw [Sw.out];exact Fg,QI.out.trans' Dm.st.md (fun z hz e=>e (HO8.out z hz)),fun z hz=>by rw [Dm.st.old z (aH hz QI.out.size)];exact HO8.out z hz⟩;clear Fg Dm pX;go_wp2_with fail;go_roundw
   case rel=>exact ⟨k+1,y9,by omega,by go_num,HF9.out.1,HF9.out.2.1,HF9.out.2.2⟩
   case measure=>simp [intOf];omega
  ·obtain rfl:k=shards+1:=by omega
   have HF:Hid (∃ g' y',Ending.returned (.tuple #[.pointer (some ⟨g,0,none⟩),.nilIface])=.returned (.tuple #[.pointer (some ⟨g',0,none⟩),.nilIface])/\dx wo n c g' y' (fq shards nodes)/\w.heap.size<=g'/\Mod dZ w wo/\(∀ k,k<w.heap.size->y'.own k=.no)):=⟨g,yr,rfl,hH,by have:=HG.out;omega,hM,hO⟩;have lp:decide (((shards+1:Nat):Int)<(shards:Int)+1)=false:=aL (by omega);clear hH hM hO;go_wp2_with fail;go_ret2;exact HF.out
theorem Tryz.Hl:(Tryz.prog.info? 62).map (fun i=>(i.zero,i.size,i.bytes))=some (some (.slice none 0 0),1,24):=by kernel_rfl
def zP(s:dX)(k i:Nat):List (List dv):=((iX s k).take i).map fun j=>(fP s k j).log
def KQ(s:dX)(k:Nat):List (List dv):=(fa s k).map fun (x:eK)=>x.log
theorem yKd{s:dX}{k i j:Nat}(h:(iX s k)[i]?=some j):zP s k (i+1)=zP s k i++[(fP s k j).log]:=by unfold zP;rw [qg h,ay];rfl
theorem yNy(s:dX)(k:Nat):zP s k (iX s k).length=KQ s k:=by unfold zP KQ;rw [bJ,<-RR,dO];rfl
theorem yNx(s:dX)(k:Nat){i:Nat}(h:i<=(iX s k).length):(zP s k i).length=i:=by unfold zP;rw [ar,aZ];omega
def vh(w:World)(B:Nat)(L:Lo)(v:Value)(ls:List (List dv)):Prop:=∃ us:List Value,us.length=ls.length/\w.ownsRow B 62 1 v ls.length us/\∀ (i:Nat) l u,ls[i]?=some l->us[i]?=some u->gZ w L u l/\∀ z,u.ownBlock=some z->B<=z
theorem vh.nil(w:World)(B:Nat)(L:Lo):vh w B L (.slice none 0 0) []:=⟨[],rfl,World.ownsRow_nil _ _ _ _,fun i l u h=>by simp at h⟩
theorem gZ.one'{w:World}{L:Lo}{v:Value}{cs:List dv}(h:gZ w L v cs):v.oneCell'=true:=by obtain ⟨a,cap,rfl⟩:=h.slice;rfl
theorem ySi(n c g:Nat)(y:dY)(s:dX)(k:Nat)(w:World)(h:dx w n c g y s)(hS:Safe s)(hk:k<s.lines.length) :
  Calls Tryz.prog 21 #[.pointer (some ⟨g,0,none⟩),.int .i64 k] w fun e w'=>∃ v,e=.returned (.tuple #[v,.nilIface])/\vh w' w.heap.size (y.lo n) v (KQ s k)/\Mod dZ w w':=by
 obtain ⟨i0,hi,hz0,hz1,hz2⟩:=info_parts Tryz.Hl;obtain ⟨c0,-⟩:=kF h.blk;obtain ⟨la,ey,hlv⟩:=eu h.fi;have hll:=hS.ll;have hlen:=h.iQ;rw [hlv,hlen] at c0;obtain ⟨b,hb,hL⟩:=h.nJ hk;have BN:=dV (Ui n c g y s k b w h hS.shape hk hb);have qs:decide ((k:Int)<0)=false:=aL (by omega);have hk1:decide ((k:Int) ≥ (s.lines.length:Int))=false:=aL (by omega);have kD:=h.low;have hgl:=h.blk.lt;have HH:=dV h;have HS:=dV hS;have HB:=dV hb;have hl4:(iX s k).length<=4:=by
  rw [RQ];have h2:(fa s k).length<=(s.line k).nodes.length:=bB _ _;have:=hS.pA hk;omega
 clear h hS hb hL hlv;go_enter Tryz.func21,Tryz.ntmps21;go_upto_region 5 with (first
  | (go_at_call 46;refine BN.out.mono ?_;rintro e w1 ⟨v,rfl,hv,dh⟩;(have hvv:∃ va vc,v=.slice va (iX s k).length vc:=(by obtain ⟨va,vc,e,_⟩:=hv;exact ⟨va,vc,e⟩));obtain ⟨va,vc,lI⟩:=hvv;subst lI)
  | fail)
 have HV:=dV hv;have fJ:=dV dh;clear hv dh BN c0;go_loopw [6,25] (fun tv i1 wr=>∃ (i:Nat),i<=(iX s k).length/\i1=.int .i64 i/\vh wr w1.heap.size (y.lo n) tv (zP s k i)/\Mod dZ w wr/\Mod dZ w1 wr) (fun _ i1 _=>(iX s k).length - (intOf i1).toNat)
 case atStart=>exact ⟨0,aT _,rfl,vh.nil _ _ _,fJ.out,Mod.refl _ _⟩
 case round=>
  obtain ⟨i,hil,rfl,hR,hM,qz⟩:=hrel;obtain ⟨wo,hwo⟩:∃ x,x=wr:=⟨_,rfl⟩;subst hwo;obtain ⟨us,mD,hrow,hcs⟩:=hR;have qD:=yNx s k hil;rw [qD] at hrow mD;obtain ⟨ta,gL,oS⟩:=eu hrow;subst oS;by_cases hlt:i<(iX s k).length
  ·obtain ⟨j,hj⟩:∃ j,(iX s k)[i]?=some j:=⟨_,aA hlt⟩;obtain ⟨va',vc',e1,e2⟩:=HV.out;simp only [Value.slice.injEq] at e1;obtain ⟨e1,-,-⟩:=e1;subst e1;obtain ⟨lg,d,rfl,hd,hc,-⟩:=e2 i j hj;have kQ:=HH.out.quiet hM;have hN:=kQ.mU HB.out (aC hd);rw [kQ.kW HB.out (ma hk) hd (zZ (EP hj).1)] at hN;have sP:=dV (Lq _ _ _ _ _ _ hN);have YG:=qz.cell hc (fun e=>e);have xw:(i:Int)<((iX s k).length:Int):=by omega
   have Xp:(0:Int)<=(i:Int):=by omega
   have jz:=dV (yKd hj);have fY:=dV hrow;have Fy:=dV hcs;have HM:=dV hM;have BJ:=dV qz;have ZO:=dV mD;have BM:=dV qD;have AF:=qz.size;have hzw1:=fJ.out.size;clear kQ hN hM qz hj hd hc e2 hrow hcs mD qD;generalize (fP s k j).log=lj at sP jz;go_upto_region 7 with fail;go_wp2_with fail;refine sP.out.mono ?_;rintro e w2 ⟨v2,rfl,An,hf2,hm2⟩;have hone:=An.one';obtain ⟨a2,cap2,hv2⟩:=An.slice;have kg:Mod dZ wo (w2.alloc (.cells #[v2] 62)):=hm2.alloc _;obtain ⟨v7,w7,gg,eJ,eS,_,iq⟩:=run_append_own_at (P:=Tryz.prog) (w2.alloc (.cells #[v2] 62)) w1.heap.size 58 58 62 i0 _ 1 24 Tryz.underlying58 hi hz0 hz1 hz2 rfl (by omega) _ _ _ (fm fY.out kg (fun _ _ _ _ e=>e)) ⟨w2.heap.size,0,none⟩ 1 1 [v2] rfl (World.news_of_block (heap_alloc_new w2 _)) (by intro u hu;simp at hu;rw [hu];exact hone) (by unfold maxLen;omega) (by omega) (by have:=kg.size;omega);obtain ⟨a7,fE,py⟩:=eu eJ;subst py;have hrow2:=fm fY.out kg (fun _ _ _ _ e=>e);have pE:Mod (fun z=>(Value.slice ta i gL).ownBlock=some z) (w2.alloc (.cells #[v2] 62)) w7:=(Mod.refl _ _).grown eS (fun x hx _=>hx);have IA:Qm (w2.alloc (.cells #[v2] 62)) (y.lo n) (fun z=>(Value.slice ta i gL).ownBlock=some z):=Qm.row hrow2 (by show n<=w1.heap.size;have:=fJ.out.size;omega) (by decide);have HF:Hid (vh w7 w1.heap.size (y.lo n) (.slice a7 (i+1) fE) (zP s k (i+1))/\Mod dZ w w7/\Mod dZ w1 w7):=by
    have hne:∀ {u:Value} {l:List dv},gZ (w2.alloc (.cells #[v2] 62)) (y.lo n) u l->∀ z,u.ownBlock=some z->(Value.slice ta i gL).ownBlock≠some z:=fun {u l} hu z hz q=>by
     obtain ⟨_,_,cur,fN⟩:=fW hrow2 q;obtain ⟨xZ,_,h3,_⟩:=hu;obtain ⟨_,_,kh,h2⟩:=fW h3 hz;rw [fN] at h2;simp at h2
    have hfin:∀ {G:World},Mod dZ G wo->w.heap.size<=G.heap.size\/True->Mod dZ G (w2.alloc (.cells #[v2] 62)):=fun h _=>h.trans kg;refine ⟨⟨us++[v2],by rw [aD,ZO.out,jz.out,aD,BM.out];rfl,?_,fun x l u hl hu=>?_⟩,?_,?_⟩
    ·rw [jz.out,aD,BM.out];exact eJ
    ·rw [jz.out] at hl;have hlen1:(zP s k i).length=i:=BM.out;have tK:us.length=i:=ZO.out;by_cases hx:x<i
     ·rw [aE (by omega)] at hl;rw [aE (by omega)] at hu;obtain ⟨q1,q2⟩:=Fy.out x l u hl hu;have q3:=q1.mod kg (Qm.none _ _) (fun _ _ e=>e);exact ⟨q3.mod pE IA (fun z hz=>hne q3 z hz),q2⟩
     ·rw [aM (by omega)] at hl hu;have hx0:x - (zP s k i).length=0:=by
       have:=(aB.1 hl).1;simp at this;omega
      rw [hx0] at hl;rw [show x - us.length=0 by omega] at hu;simp at hl hu;subst hl hu;have q3:=An.mod ((Mod.refl dZ w2).alloc (.cells #[v2] 62)) (Qm.none _ _) (fun _ _ e=>e);exact ⟨q3.mod pE IA (fun z hz=>hne q3 z hz),fun z hz=>aJ AF (hf2 z hz)⟩
    ·exact (HM.out.trans kg).trans' pE (fun z hz q=>by have:=(fW hrow2 q).1;omega)
    ·exact (BJ.out.trans kg).trans' pE (fun z hz q=>by have:=(fW hrow2 q).1;omega)
   subst hv2;clear An hf2 hm2 kg eJ eS iq hrow2 pE IA sP fY Fy HM BJ ZO YG;go_wp2_with (first
    | (at_builtin;refine MV rfl (ze (s:=.tmp 29) (x:=.tmp 32) (t:=58) rfl (by go_simp) (by go_simp) gg) ?_)
    | fail)
   go_roundw
   case rel=>exact ⟨i+1,by omega,by go_num,HF.out.1,HF.out.2.1,HF.out.2.2⟩
   case measure=>simp [intOf];omega
  ·obtain rfl:i=(iX s k).length:=by omega
   have HF:Hid (vh wo w.heap.size (y.lo n) (.slice ta (iX s k).length gL) (KQ s k)/\Mod dZ w wo):=by
    unfold Hid;rw [<-yNy];exact ⟨⟨us,by rw [qD];exact mD,by rw [qD];exact uL hrow fJ.out.size,fun x l u h1 h2=>⟨(hcs x l u h1 h2).1,fun z hz=>aJ fJ.out.size ((hcs x l u h1 h2).2 z hz)⟩⟩,hM⟩
   clear hM qz hrow hcs mD;go_wp2_with fail;go_ret2;exact ⟨_,rfl,HF.out.1,HF.out.2⟩
def sK(w:World)(B:Nat)(v:Value)(os:List fg):Prop:=w.ownsRow B 51 4 v os.length (ug os)
theorem sK.mod{G:Nat->Prop}{w w':World}{B:Nat}{v:Value}{os:List fg}(h:sK w B v os)(hm:Mod G w w')(hG:∀ k,v.ownBlock=some k->¬ G k):sK w' B v os:=fm h hm (fun k _ _ e=>hG k e)
structure eC where
 h:dX
 dW:List eM
 now:Int
 safe:Bool
 nodes:Nat
def Tc(g:Nat)(xv:Value)(s:eC):List Value:=[.pointer (some ⟨g,0,none⟩),xv,.int .i64 s.now,.bool s.safe,.int .i64 s.nodes]
structure eZ(w:World)(n c gs g:Nat)(y:dY)(xv:Value)(vs:List Value)(s:eC):Prop where
 blk:dg w gs (Tc g xv s) 37
 house:dx w n c g y s.h
 row:ju 46 w n xv s.dW vs
 ops:∀ (i:Nat) t u,s.dW[i]?=some t->vs[i]?=some u->sK w n u t.ops
 no:y.own gs=.no
 Gy:∀ k,xv.ownBlock=some k->y.own k=.no
 Ez:∀ u∈vs,∀ k,u.ownBlock=some k->y.own k=.no
 apart:∀ (i j:Nat) u v k,vs[i]?=some u->vs[j]?=some v->u.ownBlock=some k->v.ownBlock=some k->i=j
theorem eZ.Ey{w:World}{n c gs g:Nat}{y:dY}{xv:Value}{vs:List Value}{s:eC}(h:eZ w n c gs g y xv vs s){u:Value}(hu:u∈vs):∃ (i:Nat) (t:eM),s.dW[i]?=some t/\vs[i]?=some u/\sK w n u t.ops:=by
 obtain ⟨i,hi⟩:=aO hu;have hil:i<s.dW.length:=by have:=(aB.1 hi).1;have:=h.row.1;omega
 exact ⟨i,_,aA hil,hi,h.ops i _ u (aA hil) hi⟩
theorem eZ.step{w w':World}{n c c' gs g:Nat}{y y':dY}{xv:Value}{vs:List Value}{s:eC}(h:eZ w n c gs g y xv vs s)(hs:iG w y w' y'){h':dX}(hh:dx w' n c' g y' h'):eZ w' n c' gs g y' xv vs { s with h:=h' }:=by
 have hx:∀ k,xv.ownBlock=some k->k<w.heap.size:=fun k hk=>by obtain ⟨_,_,cur,hc⟩:=fW h.row.2 hk;exact (aG.1 hc).1
 have ho:∀ u∈vs,∀ k,u.ownBlock=some k->k<w.heap.size:=fun u hu k hk=>by
  obtain ⟨i,t,_,_,hr⟩:=h.Ey hu;obtain ⟨_,_,cur,hc⟩:=fW hr hk;exact (aG.1 hc).1
 exact ⟨hs.blk h.blk h.no,hh,h.row.mod hs.md (fun k hk e=>e (h.Gy k hk)),fun i t u hi hu=>(h.ops i t u hi hu).mod hs.md (fun k hk e=>e (h.Ez u (aC hu) k hk)),
  (hs.old gs h.blk.lt).trans h.no,fun k hk=>(hs.old k (hx k hk)).trans (h.Gy k hk),fun u hu k hk=>(hs.old k (ho u hu k hk)).trans (h.Ez u hu k hk),h.apart⟩
theorem eZ.quiet{w w':World}{n c gs g:Nat}{y:dY}{xv:Value}{vs:List Value}{s:eC}(h:eZ w n c gs g y xv vs s)(hm:Mod dZ w w'):eZ w' n c gs g y xv vs s:=h.step (iG.quiet hm) (h.house.quiet hm)
theorem gu{w:World}{gs g:Nat}{xv:Value}{s:eC}(h:dg w gs (Tc g xv s) 37) :
  w.cell? ⟨gs,0,none⟩=some (.pointer (some ⟨g,0,none⟩))/\w.cell? ⟨gs,1,none⟩=some xv/\w.cell? ⟨gs,2,none⟩=some (.int .i64 s.now)/\w.cell? ⟨gs,3,none⟩=some (.bool s.safe)/\w.cell? ⟨gs,4,none⟩=some (.int .i64 s.nodes):=
 ⟨h.cell 0 rfl,h.cell 1 rfl,h.cell 2 rfl,h.cell 3 rfl,h.cell 4 rfl⟩
def Be(s:eC)(jZ node:Nat):dX:=if 1<(KQ s.h jZ).length\/s.safe=false then (pZ s.h (10*jZ+node:Nat)).1 else s.h
theorem yPc(n c gs g:Nat)(y:dY)(xv:Value)(vs:List Value)(s:eC)(k j:Nat)(w:World)(h:eZ w n c gs g y xv vs s)(hS:Safe s.h)(hsh:lr s.h)(hk:k<s.h.lines.length)(hk3:k<3)(hj:j<3)(hd1:s.h.dead.length<=1000)(hd2:s.h.net.down.length<=1000)(hlo:s.h.net.lost+200<=4611686018427387904) :
  Calls Tryz.prog 32 #[.pointer (some ⟨gs,0,none⟩),.int .i64 k,.int .i64 j] w fun e w'=>e=.returned (.tuple #[])/\∃ y',eZ w' n c gs g y' xv vs { s with h:=Be s k j }/\iG w y w' y':=by
 obtain ⟨c0,c1,c2,c3,c4⟩:=gu h.blk;have sP:=dV (ySi n c g y s.h k w h.house hS hk);have HH:=dV h;have hgl:=h.blk.lt;have zK:Hid (∀ wq,Mod dZ w wq->Calls Tryz.prog 60 #[.pointer (some ⟨g,0,none⟩),.int .i64 (10*(k:Int)+j)] wq fun e w'=>∃ e',e=.returned e'/\∃ y',eZ w' n c gs g y' xv vs { s with h:=(pZ s.h (10*k+j:Nat)).1 }/\iG w y w' y'):=fun wq hq=>by
  have:=yTf n c g y s.h (10*k+j:Nat) wq (h.house.quiet hq) hsh (by unfold gO;omega) hd1 hd2 hlo;rw [show ((10*k+j:Nat):Int)=10*(k:Int)+j by omega] at this ⊢;refine this.mono ?_;rintro e w' ⟨rfl,y',hh',hk'⟩;exact ⟨_,rfl,y',(h.quiet hq).step hk'.st hh',(iG.quiet hq).trans hk'.st⟩
 have e1:wrap64 (10*(k:Int))=10*(k:Int):=IntWalk.wrap64_in _ ⟨by omega,by omega⟩;have e2:wrap64 (10*(k:Int)+j)=10*(k:Int)+j:=IntWalk.wrap64_in _ ⟨by omega,by omega⟩;clear h;go_enter Tryz.func32,Tryz.ntmps32;go_wp2_with fail;refine sP.out.mono ?_;rintro e w1 ⟨v,rfl,hr,hm⟩;obtain ⟨us,SG,hrow,-⟩:=hr;obtain ⟨va,vc,lI⟩:=eu hrow;subst lI;have d3:=hm.cell c3 id;have d0:=hm.cell c0 id;have Xt:=aH hgl hm.size;have HM:=dV hm;obtain ⟨lg,IQ⟩:∃ z,z=KQ s.h k:=⟨_,rfl⟩;rw [<-IQ];have TE:Hid (1<lg.length\/s.safe=false->Be s k j=(pZ s.h (10*k+j:Nat)).1):=fun e=>by unfold Be;rw [<-IQ,aP e]
 have nX:Hid (¬ (1<lg.length\/s.safe=false)->Be s k j=s.h):=fun e=>by unfold Be;rw [<-IQ,aK e]
 clear IQ hrow SG hm c0 c1 c2 c3 c4 sP
 cases hb:decide ((lg.length:Int) > 1)
 ·cases CA:s.safe
  ·rw [CA] at d3;have HE:=dV (TE.out (.inr CA));clear CA;go_wp2_with fail;refine (zK.out _ HM.out).mono ?_;rintro e w2 ⟨e',rfl,y',hq,hst⟩;rw [<-HE.out] at hq;have HQ:=dV hq;have HST:=dV hst;clear hq hst;go_wp2_with fail;go_end0;exact ⟨rfl,y',HQ.out,HST.out⟩
  ·rw [CA] at d3;have HE:=dV (nX.out (fun e=>e.elim (fun e=>by simp at hb;omega) (fun e=>by rw [CA] at e;cases e)));clear CA;go_wp2_with fail;go_end0;refine ⟨rfl,y,?_,iG.quiet HM.out⟩;rw [HE.out];exact HH.out.quiet HM.out
 ·have HE:=dV (TE.out (.inl (by simp at hb;omega)));go_wp2_with fail;refine (zK.out _ HM.out).mono ?_;rintro e w2 ⟨e',rfl,y',hq,hst⟩;rw [<-HE.out] at hq;have HQ:=dV hq;have HST:=dV hst;clear hq hst;go_wp2_with fail;go_end0;exact ⟨rfl,y',HQ.out,HST.out⟩
theorem dx.beside{w w':World}{n c g:Nat}{y:dY}{s:dX}{G:Nat->Prop}(h:dx w n c g y s)(hm:Mod G w w')(hq:Qm w (y.lo n) G)(hG:∀ k,k<w.heap.size->G k->y.own k=.no):dx w' n c g y s:=by
 have hN:∀ k,y.own k≠.no->¬ G k:=fun k hk e=>hk (hG k (h.own.lt k hk).2 e);refine ⟨h.blk.mod hm (hN _ (by rw [h.own.main];simp)),h.net.mod hm hq (fun k hk=>hN _ (by rw [h.own.net k hk];simp)),h.dead.mod hm (fun k hk=>hN _ (by cases hk;rw [h.own.dead];simp)),h.tab.mod hm (fun k hk=>hN _ (by rw [h.own.tab k hk];simp)),h.qn,
  fm h.fi hm (fun k _ _ e=>hN _ (by rw [h.own.fi k e];simp)),h.iQ,fun k b l hb hl=>?_,fm h.gW hm (fun k _ _ e=>hN _ (by rw [h.own.gW k e];simp)),h.kN,fun i b t hb ht=>?_,
  { h.own with lt:=fun k hk=>⟨(h.own.lt k hk).1,aH (h.own.lt k hk).2 hm.size⟩ }⟩
 ·have kX:=aC hb;obtain ⟨o1,o2⟩:=h.own.line b kX;exact (h.line k b l hb hl).mod hm hq (hN _ (by rw [o1];simp)) (fun x hx=>hN _ (by rw [o2 x hx];simp)) (fun d hd x hx=>hN _ (by rw [h.own.node b kX d hd x hx];simp))
 ·obtain ⟨o1,o2⟩:=h.own.tx b (aC hb);exact (h.tx i b t hb ht).mod hm (hN _ (by rw [o1];simp)) (fun x hx=>hN _ (by rw [o2 x hx];simp))
theorem NF{w:World}{L:Lo}{k:Nat}{cur:Array Value}{t:TypeId}{fr:Nat × Nat}(hk:w.heap[k]?=some (.cells cur t fr))(ht:t≠68)(hn:L.n<=k):¬ St w L k:=by
 rintro (h | ⟨⟨cur',fr',h⟩,_⟩)
 ·omega
 ·rw [hk] at h;simp at h;exact ht h.2.1
def Bg(gs:Nat)(xv:Value)(vs:List Value)(k:Nat):Prop:=k=gs\/xv.ownBlock=some k\/∃ u∈vs,u.ownBlock=some k
theorem eZ.Gu{w:World}{n c gs g:Nat}{y:dY}{xv:Value}{vs:List Value}{s:eC}(h:eZ w n c gs g y xv vs s){k:Nat}(hk:Bg gs xv vs k):y.own k=.no:=by
 rcases hk with rfl | hk | ⟨u,hu,hk⟩
 ·exact h.no
 ·exact h.Gy k hk
 ·exact h.Ez u hu k hk
theorem eZ.cells{w:World}{n c gs g:Nat}{y:dY}{xv:Value}{vs:List Value}{s:eC}(h:eZ w n c gs g y xv vs s)(kr:n<=gs){k:Nat}(hk:Bg gs xv vs k):n<=k/\k<w.heap.size/\∃ cur t fr,w.heap[k]?=some (.cells cur t fr)/\t≠68/\(xv.ownBlock=some k->t=46)/\(k=gs->t=37)/\((∃ u∈vs,u.ownBlock=some k)->t=51):=by
 have key:∀ k,xv.ownBlock=some k->∃ cur,n<=k/\w.heap[k]?=some (.cells cur 46 (0,0)):=fun k hk=>by
  obtain ⟨a,b,cur,hc⟩:=fW h.row.2 hk;exact ⟨cur,a,hc⟩
 have Hc:∀ u∈vs,∀ k,u.ownBlock=some k->∃ cur,n<=k/\w.heap[k]?=some (.cells cur 51 (0,0)):=fun u hu k hk=>by
  obtain ⟨i,t,_,_,hr⟩:=h.Ey hu;obtain ⟨a,b,cur,hc⟩:=fW hr hk;exact ⟨cur,a,hc⟩
 have CG:w.heap[gs]?=some (.cells (Tc g xv s).toArray 37 (0,0)):=h.blk;rcases hk with rfl | hk | ⟨u,hu,hk⟩
 ·refine ⟨kr,h.blk.lt,_,_,_,CG,by decide,fun e=>?_,fun _=>rfl,fun ⟨u,hu,e⟩=>?_⟩
  ·obtain ⟨cur,_,hc⟩:=key _ e;rw [CG] at hc;simp at hc
  ·obtain ⟨cur,_,hc⟩:=Hc u hu _ e;rw [CG] at hc;simp at hc
 ·obtain ⟨cur,hn,hc⟩:=key k hk;refine ⟨hn,(aG.1 hc).1,_,_,_,hc,by decide,fun _=>rfl,fun e=>?_,fun ⟨u,hu,e⟩=>?_⟩
  ·subst e;rw [CG] at hc;simp at hc
  ·obtain ⟨cur',_,hc'⟩:=Hc u hu _ e;rw [hc] at hc';simp at hc'
 ·obtain ⟨cur,hn,hc⟩:=Hc u hu k hk;refine ⟨hn,(aG.1 hc).1,_,_,_,hc,by decide,fun e=>?_,fun e=>?_,fun _=>rfl⟩
  ·obtain ⟨cur',_,hc'⟩:=key _ e;rw [hc] at hc';simp at hc'
  ·subst e;rw [CG] at hc;simp at hc
theorem eZ.sD{w w':World}{n c gs g:Nat}{y:dY}{xv:Value}{vs:List Value}{s:eC}(h:eZ w n c gs g y xv vs s)(kr:n<=gs){G:Nat->Prop}(hm:Mod G w w')(hG:∀ k,k<w.heap.size->G k->Bg gs xv vs k):dx w' n c g y s.h:=
 h.house.beside hm (fun k hk e=>by
  obtain ⟨a,_,cur,t,fr,hc,ht,_⟩:=h.cells kr (hG k hk e);exact NF hc ht a) (fun k hk e=>h.Gu (hG k hk e))
theorem eZ.tick{w:World}{n c gs g:Nat}{y:dY}{xv:Value}{vs:List Value}{s:eC}(h:eZ w n c gs g y xv vs s)(kr:n<=gs)(t:Int):eZ (w.setCell ⟨gs,2,none⟩ (.int .i64 t)) n c gs g y xv vs { s with now:=t }:=by
 have hm:Mod (eA gs) w (w.setCell ⟨gs,2,none⟩ (.int .i64 t)):=Mod.dt gs 2 _;have hne:∀ k,Bg gs xv vs k->k≠gs->¬ eA gs k:=fun k _ e q=>e q;refine ⟨?_,h.sD kr hm (fun k _ e=>.inl e),h.row.mod hm (fun k hk e=>?_),fun i x u hi hu=>(h.ops i x u hi hu).mod hm (fun k hk e=>?_),h.no,h.Gy,h.Ez,h.apart⟩
 ·have:=h.blk.set 2 (.int .i64 t);exact this
 ·obtain ⟨_,_,cur,ty,fr,_,_,q1,q2,_⟩:=h.cells kr (k:=k) (.inr (.inl hk));have:=(q1 hk).symm.trans (q2 e);exact absurd this (by decide)
 ·obtain ⟨_,_,cur,ty,fr,_,_,_,q2,q3⟩:=h.cells kr (k:=k) (.inr (.inr ⟨u,aC hu,hk⟩));have:=(q3 ⟨u,aC hu,hk⟩).symm.trans (q2 e);exact absurd this (by decide)
theorem VW{w:World}{L:Nat}{e:TypeId}{sz b n cap:Nat}{xs:List Value}(h:w.ownsRow L e sz (.slice (some ⟨b,0,none⟩) n cap) n xs)(i:Nat)(u:Value):(w.setCell ⟨b,i,none⟩ u).ownsRow L e sz (.slice (some ⟨b,0,none⟩) n cap) n (xs.set i u):=by
 refine ⟨by rw [ag];exact h.1,?_⟩;rcases h.2 with ⟨h0,_⟩ | ⟨g,cap',cur,hv,h1,hg,h2,h3,h4,h5⟩
 ·cases h0
 ·simp only [Value.slice.injEq,ae,Addr.mk.injEq] at hv;obtain ⟨⟨rfl,_⟩,_,rfl⟩:=hv;refine .inr ⟨b,cap,cur.setIfInBounds i u,rfl,h1,?_,h2,h3,by simpa using h4,?_⟩
  ·simp [World.setCell,Array.getElem?_modify,hg]
  ·rw [Array.toList_setIfInBounds,List.take_set,h5]
theorem zLw:∀ (ts:List eM) (vs:List Value) (i:Nat) (t:eM) (os:List fg) (v:Value),vs.length=ts.length->ts[i]?=some t->(nj ts vs).set (i*3) v=nj (ts.set i ⟨os,t.eF,t.fI⟩) (vs.set i v)
 | [],_,_,_,_,_,_,h=>by simp at h
 | _ :: _,[],_,_,_,_,h,_=>by simp at h
 | p :: ts,q :: vs,0,t,os,v,_,h=>by
  simp at h;subst h;rfl
 | p :: ts,q :: vs,i+1,t,os,v,hl,h=>by
  have ih:=zLw ts vs i t os v (by simpa using hl) (by simpa using h);rw [dI,dI,nj,nj,<-ih,show (i+1)*3=i*3+1+1+1 by omega];rfl
theorem ju.Gl{ty:TypeId}{w:World}{B b n cap:Nat}{ts:List eM}{vs:List Value}{i:Nat}{t:eM}(h:ju ty w B (.slice (some ⟨b,0,none⟩) n cap) ts vs)(hn:n=ts.length)(hi:ts[i]?=some t)(os:List fg)(v:Value):ju ty (w.setCell ⟨b,i*3,none⟩ v) B (.slice (some ⟨b,0,none⟩) n cap) (ts.set i ⟨os,t.eF,t.fI⟩) (vs.set i v):=by
 subst hn;refine ⟨by simpa using h.1,?_⟩;rw [<-zLw ts vs i t os v h.1 hi,ag];exact VW h.2 _ _
theorem VA:∀ (ts:List eM) (vs:List Value) (i:Nat) (t:eM) (u:Int),vs.length=ts.length->ts[i]?=some t->(nj ts vs).set (i*3+2) (.int .i64 u)=nj (ts.set i ⟨t.ops,t.eF,u⟩) vs
 | [],_,_,_,_,_,h=>by simp at h
 | _ :: _,[],_,_,_,h,_=>by simp at h
 | p :: ts,q :: vs,0,t,u,_,h=>by
  simp at h;subst h;rfl
 | p :: ts,q :: vs,i+1,t,u,hl,h=>by
  have ih:=VA ts vs i t u (by simpa using hl) (by simpa using h);rw [dI,nj,nj,<-ih,show (i+1)*3+2=i*3+2+1+1+1 by omega];rfl
theorem eZ.nE{w:World}{n c gs g:Nat}{y:dY}{xv:Value}{vs:List Value}{s:eC}(h:eZ w n c gs g y xv vs s){i:Nat}{t:eM}(hi:s.dW[i]?=some t):∃ xb cap,xv=.slice (some ⟨xb,0,none⟩) s.dW.length cap:=by
 have hl:=(aB.1 hi).1;rcases h.row.2.2 with ⟨_,h0⟩ | ⟨g',cap',cur,e,_⟩
 ·omega
 ·exact ⟨g',cap',e⟩
theorem eZ.ux{w:World}{n c gs g xb cap:Nat}{y:dY}{vs:List Value}{s:eC}(h:eZ w n c gs g y (.slice (some ⟨xb,0,none⟩) s.dW.length cap) vs s)(kr:n<=gs){i:Nat}{t:eM}(hi:s.dW[i]?=some t)(u:Int) :
  eZ (w.setCell ⟨xb,i*3+2,none⟩ (.int .i64 u)) n c gs g y (.slice (some ⟨xb,0,none⟩) s.dW.length cap) vs { s with dW:=s.dW.set i ⟨t.ops,t.eF,u⟩ }:=by
 have hm:Mod (eA xb) w (w.setCell ⟨xb,i*3+2,none⟩ (.int .i64 u)):=Mod.dt xb _ _;have hx:(Value.slice (some ⟨xb,0,none⟩) s.dW.length cap).ownBlock=some xb:=rfl;obtain ⟨_,_,cur,ty,fr,_,_,q1,q2,q3⟩:=h.cells kr (k:=xb) (.inr (.inl hx));have hr:=h.row;refine ⟨h.blk.mod hm (fun e=>?_),h.sD kr hm (fun k _ e=>.inr (.inl (by rw [hx];exact ai some (Eq.symm e)))),⟨by rw [ag];exact hr.1,?_⟩,fun j x v hj hv=>?_,h.no,h.Gy,h.Ez,h.apart⟩
 ·have:=(q1 hx).symm.trans (q2 (Eq.symm e));exact absurd this (by decide)
 ·show World.ownsRow _ _ _ _ _ (s.dW.set i ⟨t.ops,t.eF,u⟩).length (nj (s.dW.set i ⟨t.ops,t.eF,u⟩) vs);rw [<-VA s.dW vs i t u hr.1 hi,ag];exact VW hr.2 _ _
 ·have hne:∀ k,v.ownBlock=some k->¬ eA xb k:=fun k hk e=>by
   have e':k=xb:=e;subst e';have:=(q1 hx).symm.trans (q3 ⟨v,aC hv,hk⟩);exact absurd this (by decide)
  rw [bq] at hj;split at hj
  ·rename_i e;split at hj
   ·cases hj
    subst e;exact (h.ops _ t v hi hv).mod hm hne
   ·cases hj
  ·exact (h.ops j x v hj hv).mod hm hne
theorem eZ.Gr{w w7:World}{n c gs g xb cap:Nat}{y:dY}{vs:List Value}{s:eC}(h:eZ w n c gs g y (.slice (some ⟨xb,0,none⟩) s.dW.length cap) vs s)(kr:n<=gs){i:Nat}{t:eM}{u v7:Value}{o:fg}(hi:s.dW[i]?=some t)(hu:vs[i]?=some u)(hm:Mod (fun k=>u.ownBlock=some k) w w7)
  (hown:sK w7 n v7 (t.ops++[o])) (hmv:∀ k,v7.ownBlock=some k->u.ownBlock=some k\/w.heap.size<=k) :
  eZ (w7.setCell ⟨xb,i*3,none⟩ v7) n c gs g y (.slice (some ⟨xb,0,none⟩) s.dW.length cap) (vs.set i v7) { s with dW:=s.dW.set i ⟨t.ops++[o],t.eF,t.fI⟩ }:=by
 have uO:=aC hu;have hx:(Value.slice (some ⟨xb,0,none⟩) s.dW.length cap).ownBlock=some xb:=rfl;obtain ⟨_,hxl,cur,ty,fr,Ke,_,q1,q2,q3⟩:=h.cells kr (k:=xb) (.inr (.inl hx));have hr:=h.row;have NY:∀ v∈vs,v.ownBlock≠some xb:=fun v hv e=>by
  have:=(q1 hx).symm.trans (q3 ⟨v,hv,e⟩);exact absurd this (by decide)
 have hgx:gs≠xb:=fun e=>by have:=(q1 hx).symm.trans (q2 (Eq.symm e));exact absurd this (by decide)
 have Xr:∀ v∈vs,v.ownBlock≠some gs:=fun v hv e=>by
  obtain ⟨_,_,cur,ty,fr,_,_,_,p2,p3⟩:=h.cells kr (k:=gs) (.inl rfl);have:=(p2 rfl).symm.trans (p3 ⟨v,hv,e⟩);exact absurd this (by decide)
 have hlt:∀ v∈vs,∀ k,v.ownBlock=some k->k<w.heap.size:=fun v hv k hk=>(h.cells kr (k:=k) (.inr (.inr ⟨v,hv,hk⟩))).2.1;have oT:Mod (eA xb) w7 (w7.setCell ⟨xb,i*3,none⟩ v7):=Mod.dt xb _ _;have hM:Mod (fun k=>u.ownBlock=some k\/k=xb) w (w7.setCell ⟨xb,i*3,none⟩ v7):=(hm.mono (fun _ _ e=>.inl e)).trans (oT.mono (fun _ _ e=>.inr e));have hil:=(aB.1 hu).1;have h7x:v7.ownBlock≠some xb:=fun e=>by
  rcases hmv xb e with q | q
  ·exact NY u uO q
  ·omega
 have hno:∀ k,w.heap.size<=k->y.own k=.no:=fun k hk=>by
  by_cases e:y.own k=.no
  ·exact e
  ·have:=(h.house.own.lt k e).2;omega
 have r7:ju 46 w7 n (.slice (some ⟨xb,0,none⟩) s.dW.length cap) s.dW vs:=hr.mod hm (fun k hk e=>by rw [hx] at hk;cases hk;exact NY u uO e);refine ⟨h.blk.mod hM (fun e=>e.elim (Xr u uO) hgx),h.sD kr hM (fun k _ e=>e.elim (fun e=>.inr (.inr ⟨u,uO,e⟩)) (fun e=>.inr (.inl (by rw [hx];exact ai some (Eq.symm e))))),?_,fun j x v hj hv=>?_,h.no,h.Gy,fun v hv k hk=>?_,fun a b p q k ha hb hp hq=>?_⟩
 ·have:=r7.Gl rfl hi (t.ops++[o]) v7;exact this
 ·rw [bq] at hj hv;by_cases e:i=j
  ·subst e;have qD:=(aB.1 hi).1;rw [aP rfl,aP qD] at hj;rw [aP rfl,aP hil] at hv
   cases hj
   cases hv
   exact hown.mod oT (fun k hk e=>h7x (by have e':k=xb:=e;rw [e'] at hk;exact hk))
  ·rw [aK e] at hj hv;refine (h.ops j x v hj hv).mod hM (fun k hk q=>?_);rcases q with q | q
   ·exact e (h.apart i j u v k hu hv q hk)
   ·subst q;exact NY v (aC hv) hk
 ·rcases bQ hv with q | q
  ·exact h.Ez v q k hk
  ·subst q;rcases hmv k hk with r | r
   ·exact h.Ez u uO k r
   ·exact hno k r
 ·rw [bq] at ha hb;by_cases ea:i=a
  ·by_cases eb:i=b
   ·omega
   ·rw [aK eb] at hb;subst ea;rw [aP rfl,aP hil] at ha
    cases ha
    rcases hmv k hp with r | r
    ·exact absurd (h.apart i b u q k hu hb r hq) eb
    ·have:=hlt q (aC hb) k hq;omega
  ·rw [aK ea] at ha;by_cases eb:i=b
   ·subst eb;rw [aP rfl,aP hil] at hb
    cases hb
    rcases hmv k hq with r | r
    ·exact absurd (h.apart i a u p k hu ha r hp) ea
    ·have:=hlt p (aC ha) k hp;omega
   ·rw [aK eb] at hb;exact h.apart a b p q k ha hb hp hq
theorem eZ.Gq{w w7:World}{n c gs g:Nat}{y:dY}{xv v7:Value}{vs:List Value}{s:eC}(h:eZ w n c gs g y xv vs s)(kr:n<=gs)(f e:Int)(hm:Mod (fun k=>xv.ownBlock=some k) w w7)
  (hown:ju 46 w7 n v7 (s.dW++[⟨[],f,e⟩]) (vs++[.slice none 0 0])) (hmv:∀ k,v7.ownBlock=some k->xv.ownBlock=some k\/w.heap.size<=k) :
  eZ (w7.setCell ⟨gs,1,none⟩ v7) n c gs g y v7 (vs++[.slice none 0 0]) { s with dW:=s.dW++[⟨[],f,e⟩] }:=by
 obtain ⟨_,hgl,cur,ty,fr,_,_,q1,q2,q3⟩:=h.cells kr (k:=gs) (.inl rfl);have hgx:xv.ownBlock≠some gs:=fun e=>by have:=(q1 e).symm.trans (q2 rfl);exact absurd this (by decide)
 have Xr:∀ v∈vs,v.ownBlock≠some gs:=fun v hv e=>by have:=(q2 rfl).symm.trans (q3 ⟨v,hv,e⟩);exact absurd this (by decide)
 have NY:∀ v∈vs,∀ k,v.ownBlock=some k->xv.ownBlock≠some k:=fun v hv k hk e=>by
  obtain ⟨_,_,cur,ty,fr,_,_,p1,_,p3⟩:=h.cells kr (k:=k) (.inr (.inl e));have:=(p1 e).symm.trans (p3 ⟨v,hv,hk⟩);exact absurd this (by decide)
 have oT:Mod (eA gs) w7 (w7.setCell ⟨gs,1,none⟩ v7):=Mod.dt gs _ _;have hM:Mod (fun k=>xv.ownBlock=some k\/k=gs) w (w7.setCell ⟨gs,1,none⟩ v7):=(hm.mono (fun _ _ e=>.inl e)).trans (oT.mono (fun _ _ e=>.inr e));have h7g:v7.ownBlock≠some gs:=fun e=>by
  rcases hmv gs e with q | q
  ·exact hgx q
  ·omega
 have hno:∀ k,w.heap.size<=k->y.own k=.no:=fun k hk=>by
  by_cases e:y.own k=.no
  ·exact e
  ·have:=(h.house.own.lt k e).2;omega
 have hvl:=h.row.1;have hnl:∀ k,(Value.slice none 0 0).ownBlock≠some k:=fun k e=>by cases e
 refine ⟨?_,h.sD kr hM (fun k _ e=>e.elim (fun e=>.inr (.inl e)) .inl),hown.mod oT (fun k hk e=>h7g (by have e':k=gs:=e;rw [e'] at hk;exact hk)),fun j x v hj hv=>?_,h.no,fun k hk=>?_,fun v hv k hk=>?_,fun a b p q k ha hb hp hq=>?_⟩
 ·exact (h.blk.mod hm hgx).set 1 v7
 ·by_cases hjl:j<s.dW.length
  ·rw [aE hjl] at hj;rw [aE (by omega)] at hv;refine (h.ops j x v hj hv).mod hM (fun k hk q=>?_);rcases q with q | q
   ·exact NY v (aC hv) k hk q
   ·subst q;exact Xr v (aC hv) hk
  ·rw [aM (by omega)] at hj;rw [aM (by omega)] at hv;have e0:j - s.dW.length=0:=by have:=(aB.1 hj).1;simp at this;omega
   have e1:j - vs.length=0:=by omega
   rw [e0] at hj;rw [e1] at hv
   cases hj
   cases hv
   exact World.ownsRow_nil _ _ _ _
 ·rcases hmv k hk with r | r
  ·exact h.Gy k r
  ·exact hno k r
 ·rcases aN.1 hv with q | q
  ·exact h.Ez v q k hk
  ·rw [bU] at q;subst q;exact absurd hk (hnl k)
 ·have sp:∀ (a:Nat) (p:Value),(vs++[Value.slice none 0 0])[a]?=some p->p.ownBlock=some k->vs[a]?=some p:=fun a p ha hp=>by
   by_cases hal:a<vs.length
   ·rw [aE hal] at ha;exact ha
   ·rw [aM (by omega)] at ha;have e1:a - vs.length=0:=by have:=(aB.1 ha).1;simp at this;omega
    rw [e1] at ha
    cases ha
    exact absurd hp (hnl k)
  exact h.apart a b p q k (sp a p ha hp) (sp b q hb hq) hp hq
end Go.Proofs.YtmaiggbnceejiaaGreatDoor
