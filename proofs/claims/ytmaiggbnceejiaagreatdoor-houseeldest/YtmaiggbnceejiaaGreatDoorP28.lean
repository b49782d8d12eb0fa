import Derived.Test.YtmaiggbnceejiaaGreatDoorP27
import Derived.Test.YtmaiggbnceejiaaGreatDoorP20
import Derived.Test.YtmaiggbnceejiaaGreatDoorP25
set_option linter.unusedVariables false
set_option maxRecDepth 100000
set_option maxHeartbeats 16000000
namespace Go.Proofs.YtmaiggbnceejiaaGreatDoor
open Go.RowKit Go.Lib Go.Maps
def Lv(d:Nat):List Value:=[.slice none 0 0,.map (some d),.slice none 0 0,.int .i64 0,.map none,.map none,.slice none 0 0]
def qV(g d:Nat):dX:=⟨.slice none 0 0,d,.slice none 0 0,none,.slice none 0 0,[],fun _=>.slice none 0 0,fun _=>[],fun _=>.slice none 0 0,fun _=>.slice none 0 0,[],fun _=>.slice none 0 0,fun _=>.slice none 0 0,⟨g,[],[],84,none,0,fun _ _=>.slice none 0 0⟩,fun x=>if x=g then .main else if x=d then .dead else .no⟩
theorem du.bare(w:World)(n c nodes:Nat)(hn:n<=w.heap.size):du ((w.alloc (.map #[] 0)).alloc (.cells (Lv w.heap.size).toArray 84)) n c (w.heap.size+1) (qV (w.heap.size+1) w.heap.size) (gT nodes 0):=by
 have hz:(w.alloc (.map #[] 0)).heap.size=w.heap.size+1:=World.size_alloc _ _;have hB:dh ((w.alloc (.map #[] 0)).alloc (.cells (Lv w.heap.size).toArray 84)) (w.heap.size+1) (Lv w.heap.size) 84:=by
  have:=dh.new (w.alloc (.map #[] 0)) (Lv w.heap.size) 84;rw [hz] at this;exact this
 have hsz:((w.alloc (.map #[] 0)).alloc (.cells (Lv w.heap.size).toArray 84)).heap.size=w.heap.size+1+1:=by rw [World.size_alloc,hz]
 have NS:=World.ownsMap_made (H:=Unit) w Tryz.prog 3 unitElem;refine ⟨hB,⟨eX.nil _ _,.inl ⟨rfl,rfl⟩,by simp [gT],by simp [gT]⟩,?_,⟨fun k hk=>⟨fun _=>rfl,rfl,rfl⟩,fun k i hk=>.inl rfl,fun k i hk=>?_,fun k k' i i' x _ _ h1 _=>by simp [qV,Value.ownBlock] at h1,fun k hk=>mW.nil,fun k hk=>by simp [gT]⟩,⟨rfl,rfl,aV _⟩,World.ownsRow_nil _ _ _ _,rfl,fun k b l hb=>by simp [qV] at hb,World.ownsRow_nil _ _ _ _,rfl,fun i b t hb=>by simp [qV] at hb,?_⟩
 ·refine .inr ⟨w.heap.size,.map [],rfl,hn,?_,fun x _=>by simp [Maps.has,gT]⟩;obtain ⟨es,clock,h1,h2⟩:=NS;refine ⟨es,clock,?_,h2⟩;rw [heap_alloc_old _ _ (by rw [hz];omega)];exact h1
 ·cases i <;> exact World.ownsRow_nil _ _ _ _
 ·refine ⟨by simp [qV],fun k hk=>by simp [qV,Value.ownBlock] at hk,fun k hk=>by simp [qV,Value.ownBlock] at hk,fun k hk=>by simp [qV,Value.ownBlock] at hk,by simp [qV],fun k hk=>?_,fun b hb=>by simp [qV] at hb,fun b hb=>by simp [qV] at hb,fun b hb=>by simp [qV] at hb,fun k hk=>?_,by simp [qV],by simp [qV],by simp [qV]⟩
  ·rcases hk with hk | ⟨z,i,_,hk⟩
   ·simp [qV] at hk
   ·simp [qV,Value.ownBlock] at hk
  ·have:k=w.heap.size+1\/k=w.heap.size:=by
    simp only [qV] at hk;by_cases e1:k=w.heap.size+1
    ·exact .inl e1
    ·by_cases e2:k=w.heap.size
     ·exact .inr e2
     ·rw [aE e1,aE e2] at hk;exact absurd rfl hk
   rw [hsz];rcases this with e | e <;> omega
theorem yBl(nodes:Nat)(h4:nodes<=4):∀ m,0<=(gT nodes m).net.lost/\(gT nodes m).net.lost<=4*m
 | 0=>by simp [gT]
 | m+1=>by
  have ih:=yBl nodes h4 m;have h1:=CA (nt m nodes).2 (gT nodes m).net;have h2:(nt m nodes).2.length<=(ig m nodes).length:=Qo ⟨ig m nodes,0⟩;have h3:(ig m nodes).length=nodes:=by simp [ig]
  show 0<=(ju (gT nodes m).net (nt m nodes).2).lost/\(ju (gT nodes m).net (nt m nodes).2).lost<=_;omega
theorem Tryz.GJ:(Tryz.prog.info? 102).map (fun i=>(i.zero,i.size,i.bytes))=some (some (.pointer none),1,8):=by kernel_rfl
theorem yMl(n c shards nodes:Nat)(w:World)(h1:1<=shards/\shards<=4)(h2:1<=nodes/\nodes<=4)(hn:n<=w.heap.size) :
  Calls Tryz.prog 19 #[.int .i64 shards,.int .i64 nodes] w fun e w'=>∃ g y,e=.returned (.tuple #[.pointer (some ⟨g,0,none⟩),.nilIface])/\du w' n c g y (fS shards nodes)/\w.heap.size<=g/\Mod dZ w w'/\(∀ k,k<w.heap.size->y.own k=.no):=by
 obtain ⟨i0,hi,hz0,hz1,hz2⟩:=info_parts Tryz.GJ;have hmm:=@run_makeMap Tryz.prog;obtain ⟨g,hg⟩:∃ g,g=w.heap.size+1:=⟨_,rfl⟩;have kW:=du.bare w n c nodes hn;rw [<-hg] at kW;obtain ⟨w1,hw1⟩:∃ x,x=(w.alloc (.map #[] 0)).alloc (.cells #[.slice none 0 0,.map (some w.heap.size),.slice none 0 0,.int .i64 0,.map none,.map none,.slice none 0 0] 84):=⟨_,rfl⟩;have hb1:du w1 n c g (qV g w.heap.size) (gT nodes 0):=by rw [hw1];exact kW
 have di:Mod dZ w w1:=by rw [hw1];exact ((Mod.refl _ w).alloc _).alloc _
 have Mn:w1=(w.alloc (.map #[] 0)).alloc (.cells #[.slice none 0 0,.map (some w.heap.size),.slice none 0 0,.int .i64 0,.map none,.map none,.slice none 0 0] 84):=hw1;have mV:=dU hb1;have fg:=dU di;have Sd:Hid (∀ k,k<w.heap.size->(qV g w.heap.size).own k=.no):=fun k hk=>by simp only [qV];rw [aE (by omega),aE (by omega)]
 have hs1:decide ((shards:Int)<1)=false:=aP (by omega);have hs4:decide ((shards:Int) > 4)=false:=aP (by omega);have zS:decide ((nodes:Int)<1)=false:=aP (by omega);have hn4:decide ((nodes:Int) > 4)=false:=aP (by omega);clear kW hb1 di;go_enter Tryz.func19,Tryz.ntmps19;go_upto_region 4 with fail;rw [<-Mn,<-hg];have HG:=dU hg;clear hw1 Mn hmm hg;go_wp2_with fail;go_loopw [30] (fun k0 wr=>∃ (k:Nat) (yr:dX),k<=shards+1/\k0=.int .i64 k/\du wr n c g yr (gT nodes k)/\Mod dZ w wr/\∀ z,z<w.heap.size->yr.own z=.no) (fun k0 _=>shards+1 - (intOf k0).toNat)
 case atStart=>exact ⟨0,_,aV _,rfl,mV.out,fg.out,Sd.out⟩
 case round=>
  obtain ⟨k,yr,hkl,rfl,hH,hM,hO⟩:=hrel;obtain ⟨wo,hwo⟩:∃ x,x=wr:=⟨_,rfl⟩;subst hwo;by_cases hlt:k<shards+1
  ·have zW:=yBl nodes h2.2 k;have hll:(gT nodes k).lines.length=k:=by rw [Qg];simp
   have Kv:=dU (yEq (yr.lo n) k nodes wo (by omega) h2.1 h2.2 (aM hn hM.size) (fun z hz=>Uy hH.own z hz));have vy:(nt k nodes).2.length<=nodes:=by
    have q1:(nt k nodes).2.length<=(ig k nodes).length:=Qo ⟨ig k nodes,0⟩;have q2:(ig k nodes).length=nodes:=by simp [ig]
    omega
   have HNF:Hid (gT nodes (k+1)=qx { gT nodes k with lines:=(gT nodes k).lines++[(nt k nodes).1] } (nt k nodes).2):=rfl;have wA:(k:Int)<(shards:Int)+1:=by omega
   have qT:(0:Int)<=(k:Int):=by omega
   have hgl:=hH.blk.lt;have jG:=dU hH;have IJ:=dU hM;have ZY:=dU hO;clear hH hM hO;generalize gT nodes k=S at jG HNF zW hll;go_upto_region 8 with (first
    | (go_at_call 47;refine Kv.out.mono ?_;rintro e w2 ⟨b,bs,nv,lf,rv,v,rfl,qU⟩;obtain ⟨va,vc,lI⟩:=qU.msg.slice;subst lI)
    | fail)
   have mS:=jG.out.quiet qU.md;obtain ⟨c0,-⟩:=kA mS.blk;have f0:=mS.blk.frozen 0;have hg2:=mS.blk.lt;have jy:=mS.low;obtain ⟨la,fG,hlv⟩:=fJ mS.fm;have hlen:=mS.iN;rw [hll] at hlen;rw [hlv,hlen] at c0;have hrow:w2.ownsRow n 102 1 (.slice la k fG) k (yr.gH.map iz):=by have:=mS.fm;rw [hlv,hlen] at this;exact this
   have oE:Mod dZ w2 (w2.alloc (.cells #[.pointer (some ⟨b,0,none⟩)] 102)):=(Mod.refl _ w2).alloc _;obtain ⟨v7,w7,iA,eQ,fB,_,jC⟩:=run_append_own_at (P:=Tryz.prog) (w2.alloc (.cells #[.pointer (some ⟨b,0,none⟩)] 102)) n 74 74 102 i0 _ 1 8 Tryz.underlying74 hi hz0 hz1 hz2 rfl (by omega) _ _ _ (gD hrow oE (fun _ _ _ _ e=>e)) ⟨w2.heap.size,0,none⟩ 1 1 [.pointer (some ⟨b,0,none⟩)] rfl (World.news_of_block (heap_alloc_new w2 _)) (by simp [Value.oneCell']) (by unfold maxLen;omega) (by omega) (by have:=oE.size;omega);obtain ⟨a7,fP,qf⟩:=fJ eQ;subst qf;have ov:Mod (fun z=>(Value.slice la k fG).ownBlock=some z) w2 w7:=((Mod.refl _ w2).alloc _).grown fB (fun x hx _=>hx);have hnb:(Value.slice la k fG).ownBlock≠some g:=oM hrow mS.blk (by decide);have c7:=ov.cell c0 hnb;have f7:=(ov.frozen (p:=⟨g,0,none⟩) hg2 hnb).trans f0;have Xm:=aG hg2 ov.size;have hrl:∀ z,(Value.slice la k fG).ownBlock=some z->z<wo.heap.size:=fun z hz=>(ft jG.out.fm (by rw [hlv,jG.out.iN,hll];exact hz)).2.1;have HF:Hid (∃ y',du (w7.setCell ⟨g,0,none⟩ (.slice a7 (k+1) fP)) n c g y' { S with lines:=S.lines++[(nt k nodes).1] }/\Mod dZ w (w7.setCell ⟨g,0,none⟩ (.slice a7 (k+1) fP))/\(∀ z,z<w.heap.size->y'.own z=.no)/\eX (w7.setCell ⟨g,0,none⟩ (.slice a7 (k+1) fP)) (y'.lo n) (.slice va (nt k nodes).2.length vc) (nt k nodes).2/\∀ z,(Value.slice va (nt k nodes).2.length vc).ownBlock=some z->y'.own z=.no):=by
    have iV:Mod (eF g) w7 (w7.setCell ⟨g,0,none⟩ (.slice a7 (k+1) fP)):=Mod.dq g 0 _;have EV:Mod (fun z=>z=g\/(Value.slice la k fG).ownBlock=some z) w2 (w7.setCell ⟨g,0,none⟩ (.slice a7 (k+1) fP)):=(ov.mono (fun z _ e=>.inr e)).trans (iV.mono (fun z _ e=>.inl e));have WS:yr.lv=.slice la k fG:=by rw [hlv,hlen]
    have qS:Mod (fun z=>z=g\/yr.lv.ownBlock=some z) wo (w7.setCell ⟨g,0,none⟩ (.slice a7 (k+1) fP)):=(qU.md.mono (fun _ _ e=>e.elim)).trans (by rw [WS];exact EV);have BY:dh w7 g (JC yr S.net.lost) 84:=mS.blk.mod ov hnb;have sj:=oM eQ BY (by decide);have zB:∀ z,(z=g\/(Value.slice la k fG).ownBlock=some z)->z<wo.heap.size:=fun z e=>e.elim (fun e=>by rw [e];exact hgl) (hrl z);have uF:=qU.bn;have hq:Qm w2 (yr.lo n) (fun z=>z=g\/(Value.slice la k fG).ownBlock=some z):=fun z hz e=>by
     rintro (e1 | ⟨⟨cur,fr,e1⟩,_⟩)
     ·have h8:z<n:=e1;rcases e with e | e
      ·omega
      ·have:=(ft hrow e).1;omega
     ·rcases e with e | e
      ·subst e;have:=mS.blk;unfold dh at this;rw [this] at e1;simp at e1
      ·obtain ⟨_,_,kf,h2⟩:=ft hrow e;rw [h2] at e1;simp at e1
    have zO:∀ z,rv.ownBlock=some z->wo.heap.size<=z:=fun z hz=>(ft qU.row hz).1;obtain ⟨y',r1,r2,r3,r4⟩:=jG.out.ZE (b:=b) (bs:=bs) (nv:=nv) (lf:=lf) (rv:=rv) (l:=(nt k nodes).1) (lv:=.slice a7 (k+1) fP) qS (BY.set 0 _) (by
      rw [show yr.gH.length=k from hlen,ao];exact gD eQ iV (fun z _ _ e q=>sj (by rw [e];exact ae some q))) (by
      rw [WS];rcases jC with e | e
      ·exact .inl e
      ·exact .inr fun z hz=>by rw [e] at hz;simp only [bB] at hz;have:=qU.md.size;have:=oE.size;omega) qU.bn (qU.blk.mod EV (fun e=>by have:=zB b e;omega)) (uP (gD qU.row EV (fun z hz _ e q=>by have:=zB z q;have:=zO z e;omega)) (aM hn IJ.out.size)) zO (qU.node.mod EV hq (fun d hd z hz q=>by have:=qU.new d hd z hz;have:=zB z q;omega)) qU.new
    refine ⟨y',r1,IJ.out.trans' r2.md (fun z hz e=>e (ZY.out z hz)),fun z hz=>by rw [r2.old z (aG hz IJ.out.size)];exact ZY.out z hz,by rw [r3];exact qU.msg.mod EV hq (fun z hz q=>by have:=qU.fresh z hz;have:=zB z q;omega),fun z hz=>?_⟩;obtain ⟨_,cur,fX⟩:=(qU.msg.mod EV hq (fun z hz q=>by have:=qU.fresh z hz;have:=zB z q;omega)).block hz;refine r4 z (qU.fresh z hz) (fun e=>?_) (fun e=>?_) (fun e=>?_) (fun d hd q=>?_)
    ·obtain ⟨_,_,kf,h2⟩:=ft (gD eQ iV (fun z _ _ e q=>sj (by rw [e];exact ae some q))) e;rw [fX] at h2;simp at h2
    ·have h3:=qU.blk.mod EV (fun e=>by have:=zB b e;omega);unfold dh at h3;rw [<-e,fX] at h3;simp at h3
    ·obtain ⟨_,_,kf,h2⟩:=ft (gD qU.row EV (fun z hz _ e q=>by have:=zB z q;have:=zO z e;omega)) e;rw [fX] at h2;simp at h2
    ·exact qU.node.row qU.msg hd q hz
   clear qU mS hrow oE eQ fB jC ov hnb hlv jG IJ ZY Kv hrl jy hlen;go_upto_region 9 with (first
    | (at_builtin;refine Uf rfl (CD (s:=.tmp 43) (x:=.tmp 45) (t:=74) rfl (by go_simp) (by go_simp) iA) ?_)
    | fail)
   obtain ⟨y8,uK,hM8,hO8,Rl,NO⟩:=HF.out;have pS:=dU (Lf n c g y8 _ _ _ _ uK Rl NO (by show S.net.lost+_<=_;omega));have Pa:=dU hM8;have HO8:=dU hO8;have hg8:=uK.blk.lt;clear uK hM8 hO8 Rl NO HF c0 f0 c7 f7 iA;go_wp2_with fail;refine pS.out.mono ?_;rintro e w9 ⟨⟨x9,rfl⟩,y9,El,DD⟩;have Zw:Hid (du w9 n c g y9 (gT nodes (k+1))/\Mod dZ w w9/\∀ z,z<w.heap.size->y9.own z=.no):=⟨by rw [HNF.out];exact El,Pa.out.trans' DD.st.md (fun z hz e=>e (HO8.out z hz)),fun z hz=>by rw [DD.st.old z (aG hz Pa.out.size)];exact HO8.out z hz⟩;clear El DD pS;go_wp2_with fail;go_roundw
   case rel=>exact ⟨k+1,y9,by omega,by go_num,Zw.out.1,Zw.out.2.1,Zw.out.2.2⟩
   case measure=>simp [intOf];omega
  ·obtain rfl:k=shards+1:=by omega
   have HF:Hid (∃ g' y',Ending.returned (.tuple #[.pointer (some ⟨g,0,none⟩),.nilIface])=.returned (.tuple #[.pointer (some ⟨g',0,none⟩),.nilIface])/\du wo n c g' y' (fS shards nodes)/\w.heap.size<=g'/\Mod dZ w wo/\(∀ k,k<w.heap.size->y'.own k=.no)):=⟨g,yr,rfl,hH,by have:=HG.out;omega,hM,hO⟩;have lK:decide (((shards+1:Nat):Int)<(shards:Int)+1)=false:=aP (by omega);clear hH hM hO;go_wp2_with fail;go_ret2;exact HF.out
theorem Tryz.GK:(Tryz.prog.info? 62).map (fun i=>(i.zero,i.size,i.bytes))=some (some (.slice none 0 0),1,24):=by kernel_rfl
def yU(s:dW)(k i:Nat):List (List dt):=((iS s k).take i).map fun j=>(eG s k j).log
def Dp(s:dW)(k:Nat):List (List dt):=(fM s k).map fun (x:eH)=>x.log
theorem yJb{s:dW}{k i j:Nat}(h:(iS s k)[i]?=some j):yU s k (i+1)=yU s k i++[(eG s k j).log]:=by unfold yU;rw [qP h,ao];rfl
theorem yMo(s:dW)(k:Nat):yU s k (iS s k).length=Dp s k:=by unfold yU Dp;rw [bI,<-Qe,dN];rfl
theorem yMn(s:dW)(k:Nat){i:Nat}(h:i<=(iS s k).length):(yU s k i).length=i:=by unfold yU;rw [af,aZ];omega
def vK(w:World)(B:Nat)(L:Lo)(v:Value)(ls:List (List dt)):Prop:=∃ us:List Value,us.length=ls.length/\w.ownsRow B 62 1 v ls.length us/\∀ (i:Nat) l u,ls[i]?=some l->us[i]?=some u->gU w L u l/\∀ z,u.ownBlock=some z->B<=z
theorem vK.nil(w:World)(B:Nat)(L:Lo):vK w B L (.slice none 0 0) []:=⟨[],rfl,World.ownsRow_nil _ _ _ _,fun i l u h=>by simp at h⟩
theorem gU.one'{w:World}{L:Lo}{v:Value}{cs:List dt}(h:gU w L v cs):v.oneCell'=true:=by obtain ⟨a,cap,rfl⟩:=h.slice;rfl
theorem yQr(n c g:Nat)(y:dX)(s:dW)(k:Nat)(w:World)(h:du w n c g y s)(hS:Safe s)(hk:k<s.lines.length) :
  Calls Tryz.prog 21 #[.pointer (some ⟨g,0,none⟩),.int .i64 k] w fun e w'=>∃ v,e=.returned (.tuple #[v,.nilIface])/\vK w' w.heap.size (y.lo n) v (Dp s k)/\Mod dZ w w':=by
 obtain ⟨i0,hi,hz0,hz1,hz2⟩:=info_parts Tryz.GK;obtain ⟨c0,-⟩:=kA h.blk;obtain ⟨la,fG,hlv⟩:=fJ h.fm;have hll:=hS.ll;have hlen:=h.iN;rw [hlv,hlen] at c0;obtain ⟨b,hb,hL⟩:=h.nI hk;have AW:=dU (UY n c g y s k b w h hS.shape hk hb);have qT:decide ((k:Int)<0)=false:=aP (by omega);have hk1:decide ((k:Int) ≥ (s.lines.length:Int))=false:=aP (by omega);have jy:=h.low;have hgl:=h.blk.lt;have HH:=dU h;have HS:=dU hS;have HB:=dU hb;have hl4:(iS s k).length<=4:=by
  rw [Qd];have h2:(fM s k).length<=(s.line k).nodes.length:=aw _ _;have:=hS.nJ hk;omega
 clear h hS hb hL hlv;go_enter Tryz.func21,Tryz.ntmps21;go_upto_region 5 with (first
  | (go_at_call 46;refine AW.out.mono ?_;rintro e w1 ⟨v,rfl,hv,di⟩;(have hvv:∃ va vc,v=.slice va (iS s k).length vc:=(by obtain ⟨va,vc,e,_⟩:=hv;exact ⟨va,vc,e⟩));obtain ⟨va,vc,lI⟩:=hvv;subst lI)
  | fail)
 have HV:=dU hv;have fg:=dU di;clear hv di AW c0;go_loopw [6,25] (fun tv i1 wr=>∃ (i:Nat),i<=(iS s k).length/\i1=.int .i64 i/\vK wr w1.heap.size (y.lo n) tv (yU s k i)/\Mod dZ w wr/\Mod dZ w1 wr) (fun _ i1 _=>(iS s k).length - (intOf i1).toNat)
 case atStart=>exact ⟨0,aV _,rfl,vK.nil _ _ _,fg.out,Mod.refl _ _⟩
 case round=>
  obtain ⟨i,hil,rfl,hR,hM,qj⟩:=hrel;obtain ⟨wo,hwo⟩:∃ x,x=wr:=⟨_,rfl⟩;subst hwo;obtain ⟨us,lu,hrow,hcs⟩:=hR;have pr:=yMn s k hil;rw [pr] at hrow lu;obtain ⟨ta,iX,pM⟩:=fJ hrow;subst pM;by_cases hlt:i<(iS s k).length
  ·obtain ⟨j,hj⟩:∃ j,(iS s k)[i]?=some j:=⟨_,aA hlt⟩;obtain ⟨va',vc',e1,e2⟩:=HV.out;simp only [Value.slice.injEq] at e1;obtain ⟨e1,-,-⟩:=e1;subst e1;obtain ⟨lg,d,rfl,hd,hc,-⟩:=e2 i j hj;have kP:=HH.out.quiet hM;have hN:=kP.mN HB.out (aC hd);rw [kP.kU HB.out (mL hk) hd (og (Df hj).1)] at hN;have sB:=dU (LR _ _ _ _ _ _ hN);have Xy:=qj.cell hc (fun e=>e);have wB:(i:Int)<((iS s k).length:Int):=by omega
   have Xg:(0:Int)<=(i:Int):=by omega
   have kg:=dU (yJb hj);have fc:=dU hrow;have Ey:=dU hcs;have HM:=dU hM;have AS:=dU qj;have ZI:=dU lu;have AV:=dU pr;have zB:=qj.size;have hzw1:=fg.out.size;clear kP hN hM qj hj hd hc e2 hrow hcs lu pr;generalize (eG s k j).log=lj at sB kg;go_upto_region 7 with fail;go_wp2_with fail;refine sB.out.mono ?_;rintro e w2 ⟨v2,rfl,zv,hf2,hm2⟩;have hone:=zv.one';obtain ⟨a2,cap2,hv2⟩:=zv.slice;have oE:Mod dZ wo (w2.alloc (.cells #[v2] 62)):=hm2.alloc _;obtain ⟨v7,w7,iA,eQ,fB,_,jC⟩:=run_append_own_at (P:=Tryz.prog) (w2.alloc (.cells #[v2] 62)) w1.heap.size 58 58 62 i0 _ 1 24 Tryz.underlying58 hi hz0 hz1 hz2 rfl (by omega) _ _ _ (gD fc.out oE (fun _ _ _ _ e=>e)) ⟨w2.heap.size,0,none⟩ 1 1 [v2] rfl (World.news_of_block (heap_alloc_new w2 _)) (by intro u hu;simp at hu;rw [hu];exact hone) (by unfold maxLen;omega) (by omega) (by have:=oE.size;omega);obtain ⟨a7,fP,qf⟩:=fJ eQ;subst qf;have hrow2:=gD fc.out oE (fun _ _ _ _ e=>e);have ov:Mod (fun z=>(Value.slice ta i iX).ownBlock=some z) (w2.alloc (.cells #[v2] 62)) w7:=(Mod.refl _ _).grown fB (fun x hx _=>hx);have Gb:Qm (w2.alloc (.cells #[v2] 62)) (y.lo n) (fun z=>(Value.slice ta i iX).ownBlock=some z):=Qm.row hrow2 (by show n<=w1.heap.size;have:=fg.out.size;omega) (by decide);have HF:Hid (vK w7 w1.heap.size (y.lo n) (.slice a7 (i+1) fP) (yU s k (i+1))/\Mod dZ w w7/\Mod dZ w1 w7):=by
    have hne:∀ {u:Value} {l:List dt},gU (w2.alloc (.cells #[v2] 62)) (y.lo n) u l->∀ z,u.ownBlock=some z->(Value.slice ta i iX).ownBlock≠some z:=fun {u l} hu z hz q=>by
     obtain ⟨_,_,cur,fX⟩:=ft hrow2 q;obtain ⟨wy,_,h3,_⟩:=hu;obtain ⟨_,_,kf,h2⟩:=ft h3 hz;rw [fX] at h2;simp at h2
    have hfin:∀ {G:World},Mod dZ G wo->w.heap.size<=G.heap.size\/True->Mod dZ G (w2.alloc (.cells #[v2] 62)):=fun h _=>h.trans oE;refine ⟨⟨us++[v2],by rw [aD,ZI.out,kg.out,aD,AV.out];rfl,?_,fun x l u hl hu=>?_⟩,?_,?_⟩
    ·rw [kg.out,aD,AV.out];exact eQ
    ·rw [kg.out] at hl;have hlen1:(yU s k i).length=i:=AV.out;have sl:us.length=i:=ZI.out;by_cases hx:x<i
     ·rw [aI (by omega)] at hl;rw [aI (by omega)] at hu;obtain ⟨q1,q2⟩:=Ey.out x l u hl hu;have q3:=q1.mod oE (Qm.none _ _) (fun _ _ e=>e);exact ⟨q3.mod ov Gb (fun z hz=>hne q3 z hz),q2⟩
     ·rw [aO (by omega)] at hl hu;have hx0:x - (yU s k i).length=0:=by
       have:=(aB.1 hl).1;simp at this;omega
      rw [hx0] at hl;rw [show x - us.length=0 by omega] at hu;simp at hl hu;subst hl hu;have q3:=zv.mod ((Mod.refl dZ w2).alloc (.cells #[v2] 62)) (Qm.none _ _) (fun _ _ e=>e);exact ⟨q3.mod ov Gb (fun z hz=>hne q3 z hz),fun z hz=>aM zB (hf2 z hz)⟩
    ·exact (HM.out.trans oE).trans' ov (fun z hz q=>by have:=(ft hrow2 q).1;omega)
    ·exact (AS.out.trans oE).trans' ov (fun z hz q=>by have:=(ft hrow2 q).1;omega)
   subst hv2;clear zv hf2 hm2 oE eQ fB jC hrow2 ov Gb sB fc Ey HM AS ZI Xy;go_wp2_with (first
    | (at_builtin;refine Uf rfl (CD (s:=.tmp 29) (x:=.tmp 32) (t:=58) rfl (by go_simp) (by go_simp) iA) ?_)
    | fail)
   go_roundw
   case rel=>exact ⟨i+1,by omega,by go_num,HF.out.1,HF.out.2.1,HF.out.2.2⟩
   case measure=>simp [intOf];omega
  ·obtain rfl:i=(iS s k).length:=by omega
   have HF:Hid (vK wo w.heap.size (y.lo n) (.slice ta (iS s k).length iX) (Dp s k)/\Mod dZ w wo):=by
    unfold Hid;rw [<-yMo];exact ⟨⟨us,by rw [pr];exact lu,by rw [pr];exact uP hrow fg.out.size,fun x l u h1 h2=>⟨(hcs x l u h1 h2).1,fun z hz=>aM fg.out.size ((hcs x l u h1 h2).2 z hz)⟩⟩,hM⟩
   clear hM qj hrow hcs lu;go_wp2_with fail;go_ret2;exact ⟨_,rfl,HF.out.1,HF.out.2⟩
def rq(w:World)(B:Nat)(v:Value)(os:List gQ):Prop:=w.ownsRow B 51 4 v os.length (Ao os)
theorem rq.mod{G:Nat->Prop}{w w':World}{B:Nat}{v:Value}{os:List gQ}(h:rq w B v os)(hm:Mod G w w')(hG:∀ k,v.ownBlock=some k->¬ G k):rq w' B v os:=gD h hm (fun k _ _ e=>hG k e)
structure dw where
 h:dW
 dV:List gg
 now:Int
 safe:Bool
 nodes:Nat
def TP(g:Nat)(xv:Value)(s:dw):List Value:=[.pointer (some ⟨g,0,none⟩),xv,.int .i64 s.now,.bool s.safe,.int .i64 s.nodes]
structure ef(w:World)(n c gs g:Nat)(y:dX)(xv:Value)(vs:List Value)(s:dw):Prop where
 blk:dh w gs (TP g xv s) 37
 house:du w n c g y s.h
 row:qp 46 w n xv s.dV vs
 ops:∀ (i:Nat) t u,s.dV[i]?=some t->vs[i]?=some u->rq w n u t.ops
 no:y.own gs=.no
 Fx:∀ k,xv.ownBlock=some k->y.own k=.no
 EI:∀ u∈vs,∀ k,u.ownBlock=some k->y.own k=.no
 apart:∀ (i j:Nat) u v k,vs[i]?=some u->vs[j]?=some v->u.ownBlock=some k->v.ownBlock=some k->i=j
theorem ef.EH{w:World}{n c gs g:Nat}{y:dX}{xv:Value}{vs:List Value}{s:dw}(h:ef w n c gs g y xv vs s){u:Value}(hu:u∈vs):∃ (i:Nat) (t:gg),s.dV[i]?=some t/\vs[i]?=some u/\rq w n u t.ops:=by
 obtain ⟨i,hi⟩:=aN hu;have hil:i<s.dV.length:=by have:=(aB.1 hi).1;have:=h.row.1;omega
 exact ⟨i,_,aA hil,hi,h.ops i _ u (aA hil) hi⟩
theorem ef.step{w w':World}{n c c' gs g:Nat}{y y':dX}{xv:Value}{vs:List Value}{s:dw}(h:ef w n c gs g y xv vs s)(hs:iD w y w' y'){h':dW}(hh:du w' n c' g y' h'):ef w' n c' gs g y' xv vs { s with h:=h' }:=by
 have hx:∀ k,xv.ownBlock=some k->k<w.heap.size:=fun k hk=>by obtain ⟨_,_,cur,hc⟩:=ft h.row.2 hk;exact (aK.1 hc).1
 have ho:∀ u∈vs,∀ k,u.ownBlock=some k->k<w.heap.size:=fun u hu k hk=>by
  obtain ⟨i,t,_,_,hr⟩:=h.EH hu;obtain ⟨_,_,cur,hc⟩:=ft hr hk;exact (aK.1 hc).1
 exact ⟨hs.blk h.blk h.no,hh,h.row.mod hs.md (fun k hk e=>e (h.Fx k hk)),fun i t u hi hu=>(h.ops i t u hi hu).mod hs.md (fun k hk e=>e (h.EI u (aC hu) k hk)),
  (hs.old gs h.blk.lt).trans h.no,fun k hk=>(hs.old k (hx k hk)).trans (h.Fx k hk),fun u hu k hk=>(hs.old k (ho u hu k hk)).trans (h.EI u hu k hk),h.apart⟩
theorem ef.quiet{w w':World}{n c gs g:Nat}{y:dX}{xv:Value}{vs:List Value}{s:dw}(h:ef w n c gs g y xv vs s)(hm:Mod dZ w w'):ef w' n c gs g y xv vs s:=h.step (iD.quiet hm) (h.house.quiet hm)
theorem gN{w:World}{gs g:Nat}{xv:Value}{s:dw}(h:dh w gs (TP g xv s) 37) :
  w.cell? ⟨gs,0,none⟩=some (.pointer (some ⟨g,0,none⟩))/\w.cell? ⟨gs,1,none⟩=some xv/\w.cell? ⟨gs,2,none⟩=some (.int .i64 s.now)/\w.cell? ⟨gs,3,none⟩=some (.bool s.safe)/\w.cell? ⟨gs,4,none⟩=some (.int .i64 s.nodes):=
 ⟨h.cell 0 rfl,h.cell 1 rfl,h.cell 2 rfl,h.cell 3 rfl,h.cell 4 rfl⟩
def yW(s:dw)(jE node:Nat):dW:=if 1<(Dp s.h jE).length\/s.safe=false then (oa s.h (10*jE+node:Nat)).1 else s.h
theorem yNt(n c gs g:Nat)(y:dX)(xv:Value)(vs:List Value)(s:dw)(k j:Nat)(w:World)(h:ef w n c gs g y xv vs s)(hS:Safe s.h)(hsh:lY s.h)(hk:k<s.h.lines.length)(hk3:k<3)(hj:j<3)(hd1:s.h.dead.length<=1000)(hd2:s.h.net.down.length<=1000)(hlo:s.h.net.lost+200<=4611686018427387904) :
  Calls Tryz.prog 32 #[.pointer (some ⟨gs,0,none⟩),.int .i64 k,.int .i64 j] w fun e w'=>e=.returned (.tuple #[])/\∃ y',ef w' n c gs g y' xv vs { s with h:=yW s k j }/\iD w y w' y':=by
 obtain ⟨c0,c1,c2,c3,c4⟩:=gN h.blk;have sB:=dU (yQr n c g y s.h k w h.house hS hk);have HH:=dU h;have hgl:=h.blk.lt;have Be:Hid (∀ wq,Mod dZ w wq->Calls Tryz.prog 60 #[.pointer (some ⟨g,0,none⟩),.int .i64 (10*(k:Int)+j)] wq fun e w'=>∃ e',e=.returned e'/\∃ y',ef w' n c gs g y' xv vs { s with h:=(oa s.h (10*k+j:Nat)).1 }/\iD w y w' y'):=fun wq hq=>by
  have:=yRm n c g y s.h (10*k+j:Nat) wq (h.house.quiet hq) hsh (by unfold gw;omega) hd1 hd2 hlo;rw [show ((10*k+j:Nat):Int)=10*(k:Int)+j by omega] at this ⊢;refine this.mono ?_;rintro e w' ⟨rfl,y',hh',hk'⟩;exact ⟨_,rfl,y',(h.quiet hq).step hk'.st hh',(iD.quiet hq).trans hk'.st⟩
 have e1:wrap64 (10*(k:Int))=10*(k:Int):=IntWalk.wrap64_in _ ⟨by omega,by omega⟩;have e2:wrap64 (10*(k:Int)+j)=10*(k:Int)+j:=IntWalk.wrap64_in _ ⟨by omega,by omega⟩;clear h;go_enter Tryz.func32,Tryz.ntmps32;go_wp2_with fail;refine sB.out.mono ?_;rintro e w1 ⟨v,rfl,hr,hm⟩;obtain ⟨us,RS,hrow,-⟩:=hr;obtain ⟨va,vc,lI⟩:=fJ hrow;subst lI;have d3:=hm.cell c3 id;have d0:=hm.cell c0 id;have Xl:=aG hgl hm.size;have HM:=dU hm;obtain ⟨lg,Gn⟩:∃ z,z=Dp s.h k:=⟨_,rfl⟩;rw [<-Gn];have Sl:Hid (1<lg.length\/s.safe=false->yW s k j=(oa s.h (10*k+j:Nat)).1):=fun e=>by unfold yW;rw [<-Gn,aJ e]
 have mU:Hid (¬ (1<lg.length\/s.safe=false)->yW s k j=s.h):=fun e=>by unfold yW;rw [<-Gn,aE e]
 clear Gn hrow RS hm c0 c1 c2 c3 c4 sB
 cases hb:decide ((lg.length:Int) > 1)
 ·cases BH:s.safe
  ·rw [BH] at d3;have HE:=dU (Sl.out (.inr BH));clear BH;go_wp2_with fail;refine (Be.out _ HM.out).mono ?_;rintro e w2 ⟨e',rfl,y',hq,hst⟩;rw [<-HE.out] at hq;have HQ:=dU hq;have HST:=dU hst;clear hq hst;go_wp2_with fail;go_end0;exact ⟨rfl,y',HQ.out,HST.out⟩
  ·rw [BH] at d3;have HE:=dU (mU.out (fun e=>e.elim (fun e=>by simp at hb;omega) (fun e=>by rw [BH] at e;cases e)));clear BH;go_wp2_with fail;go_end0;refine ⟨rfl,y,?_,iD.quiet HM.out⟩;rw [HE.out];exact HH.out.quiet HM.out
 ·have HE:=dU (Sl.out (.inl (by simp at hb;omega)));go_wp2_with fail;refine (Be.out _ HM.out).mono ?_;rintro e w2 ⟨e',rfl,y',hq,hst⟩;rw [<-HE.out] at hq;have HQ:=dU hq;have HST:=dU hst;clear hq hst;go_wp2_with fail;go_end0;exact ⟨rfl,y',HQ.out,HST.out⟩
theorem du.beside{w w':World}{n c g:Nat}{y:dX}{s:dW}{G:Nat->Prop}(h:du w n c g y s)(hm:Mod G w w')(hq:Qm w (y.lo n) G)(hG:∀ k,k<w.heap.size->G k->y.own k=.no):du w' n c g y s:=by
 have hN:∀ k,y.own k≠.no->¬ G k:=fun k hk e=>hk (hG k (h.own.lt k hk).2 e);refine ⟨h.blk.mod hm (hN _ (by rw [h.own.main];simp)),h.net.mod hm hq (fun k hk=>hN _ (by rw [h.own.net k hk];simp)),h.dead.mod hm (fun k hk=>hN _ (by cases hk;rw [h.own.dead];simp)),h.tab.mod hm (fun k hk=>hN _ (by rw [h.own.tab k hk];simp)),h.qn,
  gD h.fm hm (fun k _ _ e=>hN _ (by rw [h.own.fm k e];simp)),h.iN,fun k b l hb hl=>?_,gD h.gR hm (fun k _ _ e=>hN _ (by rw [h.own.gR k e];simp)),h.kM,fun i b t hb ht=>?_,
  { h.own with lt:=fun k hk=>⟨(h.own.lt k hk).1,aG (h.own.lt k hk).2 hm.size⟩ }⟩
 ·have kV:=aC hb;obtain ⟨o1,o2⟩:=h.own.line b kV;exact (h.line k b l hb hl).mod hm hq (hN _ (by rw [o1];simp)) (fun x hx=>hN _ (by rw [o2 x hx];simp)) (fun d hd x hx=>hN _ (by rw [h.own.node b kV d hd x hx];simp))
 ·obtain ⟨o1,o2⟩:=h.own.tx b (aC hb);exact (h.tx i b t hb ht).mod hm (hN _ (by rw [o1];simp)) (fun x hx=>hN _ (by rw [o2 x hx];simp))
theorem MV{w:World}{L:Lo}{k:Nat}{cur:Array Value}{t:TypeId}{fr:Nat × Nat}(hk:w.heap[k]?=some (.cells cur t fr))(ht:t≠68)(hn:L.n<=k):¬ St w L k:=by
 rintro (h | ⟨⟨cur',fr',h⟩,_⟩)
 ·omega
 ·rw [hk] at h;simp at h;exact ht h.2.1
def yZ(gs:Nat)(xv:Value)(vs:List Value)(k:Nat):Prop:=k=gs\/xv.ownBlock=some k\/∃ u∈vs,u.ownBlock=some k
theorem ef.Ft{w:World}{n c gs g:Nat}{y:dX}{xv:Value}{vs:List Value}{s:dw}(h:ef w n c gs g y xv vs s){k:Nat}(hk:yZ gs xv vs k):y.own k=.no:=by
 rcases hk with rfl | hk | ⟨u,hu,hk⟩
 ·exact h.no
 ·exact h.Fx k hk
 ·exact h.EI u hu k hk
theorem ef.cells{w:World}{n c gs g:Nat}{y:dX}{xv:Value}{vs:List Value}{s:dw}(h:ef w n c gs g y xv vs s)(kr:n<=gs){k:Nat}(hk:yZ gs xv vs k):n<=k/\k<w.heap.size/\∃ cur t fr,w.heap[k]?=some (.cells cur t fr)/\t≠68/\(xv.ownBlock=some k->t=46)/\(k=gs->t=37)/\((∃ u∈vs,u.ownBlock=some k)->t=51):=by
 have key:∀ k,xv.ownBlock=some k->∃ cur,n<=k/\w.heap[k]?=some (.cells cur 46 (0,0)):=fun k hk=>by
  obtain ⟨a,b,cur,hc⟩:=ft h.row.2 hk;exact ⟨cur,a,hc⟩
 have GA:∀ u∈vs,∀ k,u.ownBlock=some k->∃ cur,n<=k/\w.heap[k]?=some (.cells cur 51 (0,0)):=fun u hu k hk=>by
  obtain ⟨i,t,_,_,hr⟩:=h.EH hu;obtain ⟨a,b,cur,hc⟩:=ft hr hk;exact ⟨cur,a,hc⟩
 have BO:w.heap[gs]?=some (.cells (TP g xv s).toArray 37 (0,0)):=h.blk;rcases hk with rfl | hk | ⟨u,hu,hk⟩
 ·refine ⟨kr,h.blk.lt,_,_,_,BO,by decide,fun e=>?_,fun _=>rfl,fun ⟨u,hu,e⟩=>?_⟩
  ·obtain ⟨cur,_,hc⟩:=key _ e;rw [BO] at hc;simp at hc
  ·obtain ⟨cur,_,hc⟩:=GA u hu _ e;rw [BO] at hc;simp at hc
 ·obtain ⟨cur,hn,hc⟩:=key k hk;refine ⟨hn,(aK.1 hc).1,_,_,_,hc,by decide,fun _=>rfl,fun e=>?_,fun ⟨u,hu,e⟩=>?_⟩
  ·subst e;rw [BO] at hc;simp at hc
  ·obtain ⟨cur',_,hc'⟩:=GA u hu _ e;rw [hc] at hc';simp at hc'
 ·obtain ⟨cur,hn,hc⟩:=GA u hu k hk;refine ⟨hn,(aK.1 hc).1,_,_,_,hc,by decide,fun e=>?_,fun e=>?_,fun _=>rfl⟩
  ·obtain ⟨cur',_,hc'⟩:=key _ e;rw [hc] at hc';simp at hc'
  ·subst e;rw [BO] at hc;simp at hc
theorem ef.rh{w w':World}{n c gs g:Nat}{y:dX}{xv:Value}{vs:List Value}{s:dw}(h:ef w n c gs g y xv vs s)(kr:n<=gs){G:Nat->Prop}(hm:Mod G w w')(hG:∀ k,k<w.heap.size->G k->yZ gs xv vs k):du w' n c g y s.h:=
 h.house.beside hm (fun k hk e=>by
  obtain ⟨a,_,cur,t,fr,hc,ht,_⟩:=h.cells kr (hG k hk e);exact MV hc ht a) (fun k hk e=>h.Ft (hG k hk e))
theorem ef.tick{w:World}{n c gs g:Nat}{y:dX}{xv:Value}{vs:List Value}{s:dw}(h:ef w n c gs g y xv vs s)(kr:n<=gs)(t:Int):ef (w.setCell ⟨gs,2,none⟩ (.int .i64 t)) n c gs g y xv vs { s with now:=t }:=by
 have hm:Mod (eF gs) w (w.setCell ⟨gs,2,none⟩ (.int .i64 t)):=Mod.dq gs 2 _;have hne:∀ k,yZ gs xv vs k->k≠gs->¬ eF gs k:=fun k _ e q=>e q;refine ⟨?_,h.rh kr hm (fun k _ e=>.inl e),h.row.mod hm (fun k hk e=>?_),fun i x u hi hu=>(h.ops i x u hi hu).mod hm (fun k hk e=>?_),h.no,h.Fx,h.EI,h.apart⟩
 ·have:=h.blk.set 2 (.int .i64 t);exact this
 ·obtain ⟨_,_,cur,ty,fr,_,_,q1,q2,_⟩:=h.cells kr (k:=k) (.inr (.inl hk));have:=(q1 hk).symm.trans (q2 e);exact absurd this (by decide)
 ·obtain ⟨_,_,cur,ty,fr,_,_,_,q2,q3⟩:=h.cells kr (k:=k) (.inr (.inr ⟨u,aC hu,hk⟩));have:=(q3 ⟨u,aC hu,hk⟩).symm.trans (q2 e);exact absurd this (by decide)
theorem ySm{w:World}{L:Nat}{e:TypeId}{sz b n cap:Nat}{xs:List Value}(h:w.ownsRow L e sz (.slice (some ⟨b,0,none⟩) n cap) n xs)(i:Nat)(u:Value):(w.setCell ⟨b,i,none⟩ u).ownsRow L e sz (.slice (some ⟨b,0,none⟩) n cap) n (xs.set i u):=by
 refine ⟨by rw [aa];exact h.1,?_⟩;rcases h.2 with ⟨h0,_⟩ | ⟨g,cap',cur,hv,h1,hg,h2,h3,h4,h5⟩
 ·cases h0
 ·simp only [Value.slice.injEq,bB,Addr.mk.injEq] at hv;obtain ⟨⟨rfl,_⟩,_,rfl⟩:=hv;refine .inr ⟨b,cap,cur.setIfInBounds i u,rfl,h1,?_,h2,h3,by simpa using h4,?_⟩
  ·simp [World.setCell,Array.getElem?_modify,hg]
  ·rw [Array.toList_setIfInBounds,List.take_set,h5]
theorem zMa:∀ (ts:List gg) (vs:List Value) (i:Nat) (t:gg) (os:List gQ) (v:Value),vs.length=ts.length->ts[i]?=some t->(rU ts vs).set (i*3) v=rU (ts.set i ⟨os,t.eI,t.jx⟩) (vs.set i v)
 | [],_,_,_,_,_,_,h=>by simp at h
 | _ :: _,[],_,_,_,_,h,_=>by simp at h
 | p :: ts,q :: vs,0,t,os,v,_,h=>by
  simp at h;subst h;rfl
 | p :: ts,q :: vs,i+1,t,os,v,hl,h=>by
  have ih:=zMa ts vs i t os v (by simpa using hl) (by simpa using h);rw [dG,dG,rU,rU,<-ih,show (i+1)*3=i*3+1+1+1 by omega];rfl
theorem qp.Fj{ty:TypeId}{w:World}{B b n cap:Nat}{ts:List gg}{vs:List Value}{i:Nat}{t:gg}(h:qp ty w B (.slice (some ⟨b,0,none⟩) n cap) ts vs)(hn:n=ts.length)(hi:ts[i]?=some t)(os:List gQ)(v:Value):qp ty (w.setCell ⟨b,i*3,none⟩ v) B (.slice (some ⟨b,0,none⟩) n cap) (ts.set i ⟨os,t.eI,t.jx⟩) (vs.set i v):=by
 subst hn;refine ⟨by simpa using h.1,?_⟩;rw [<-zMa ts vs i t os v h.1 hi,aa];exact ySm h.2 _ _
theorem zLz:∀ (ts:List gg) (vs:List Value) (i:Nat) (t:gg) (u:Int),vs.length=ts.length->ts[i]?=some t->(rU ts vs).set (i*3+2) (.int .i64 u)=rU (ts.set i ⟨t.ops,t.eI,u⟩) vs
 | [],_,_,_,_,_,h=>by simp at h
 | _ :: _,[],_,_,_,h,_=>by simp at h
 | p :: ts,q :: vs,0,t,u,_,h=>by
  simp at h;subst h;rfl
 | p :: ts,q :: vs,i+1,t,u,hl,h=>by
  have ih:=zLz ts vs i t u (by simpa using hl) (by simpa using h);rw [dG,rU,rU,<-ih,show (i+1)*3+2=i*3+2+1+1+1 by omega];rfl
theorem ef.pJ{w:World}{n c gs g:Nat}{y:dX}{xv:Value}{vs:List Value}{s:dw}(h:ef w n c gs g y xv vs s){i:Nat}{t:gg}(hi:s.dV[i]?=some t):∃ xb cap,xv=.slice (some ⟨xb,0,none⟩) s.dV.length cap:=by
 have hl:=(aB.1 hi).1;rcases h.row.2.2 with ⟨_,h0⟩ | ⟨g',cap',cur,e,_⟩
 ·omega
 ·exact ⟨g',cap',e⟩
theorem ef.Fi{w:World}{n c gs g xb cap:Nat}{y:dX}{vs:List Value}{s:dw}(h:ef w n c gs g y (.slice (some ⟨xb,0,none⟩) s.dV.length cap) vs s)(kr:n<=gs){i:Nat}{t:gg}(hi:s.dV[i]?=some t)(u:Int) :
  ef (w.setCell ⟨xb,i*3+2,none⟩ (.int .i64 u)) n c gs g y (.slice (some ⟨xb,0,none⟩) s.dV.length cap) vs { s with dV:=s.dV.set i ⟨t.ops,t.eI,u⟩ }:=by
 have hm:Mod (eF xb) w (w.setCell ⟨xb,i*3+2,none⟩ (.int .i64 u)):=Mod.dq xb _ _;have hx:(Value.slice (some ⟨xb,0,none⟩) s.dV.length cap).ownBlock=some xb:=rfl;obtain ⟨_,_,cur,ty,fr,_,_,q1,q2,q3⟩:=h.cells kr (k:=xb) (.inr (.inl hx));have hr:=h.row;refine ⟨h.blk.mod hm (fun e=>?_),h.rh kr hm (fun k _ e=>.inr (.inl (by rw [hx];exact ae some (Eq.symm e)))),⟨by rw [aa];exact hr.1,?_⟩,fun j x v hj hv=>?_,h.no,h.Fx,h.EI,h.apart⟩
 ·have:=(q1 hx).symm.trans (q2 (Eq.symm e));exact absurd this (by decide)
 ·show World.ownsRow _ _ _ _ _ (s.dV.set i ⟨t.ops,t.eI,u⟩).length (rU (s.dV.set i ⟨t.ops,t.eI,u⟩) vs);rw [<-zLz s.dV vs i t u hr.1 hi,aa];exact ySm hr.2 _ _
 ·have hne:∀ k,v.ownBlock=some k->¬ eF xb k:=fun k hk e=>by
   have e':k=xb:=e;subst e';have:=(q1 hx).symm.trans (q3 ⟨v,aC hv,hk⟩);exact absurd this (by decide)
  rw [bw] at hj;split at hj
  ·rename_i e;split at hj
   ·cases hj
    subst e;exact (h.ops _ t v hi hv).mod hm hne
   ·cases hj
  ·exact (h.ops j x v hj hv).mod hm hne
theorem ef.Fp{w w7:World}{n c gs g xb cap:Nat}{y:dX}{vs:List Value}{s:dw}(h:ef w n c gs g y (.slice (some ⟨xb,0,none⟩) s.dV.length cap) vs s)(kr:n<=gs){i:Nat}{t:gg}{u v7:Value}{o:gQ}(hi:s.dV[i]?=some t)(hu:vs[i]?=some u)(hm:Mod (fun k=>u.ownBlock=some k) w w7)
  (hown:rq w7 n v7 (t.ops++[o])) (hmv:∀ k,v7.ownBlock=some k->u.ownBlock=some k\/w.heap.size<=k) :
  ef (w7.setCell ⟨xb,i*3,none⟩ v7) n c gs g y (.slice (some ⟨xb,0,none⟩) s.dV.length cap) (vs.set i v7) { s with dV:=s.dV.set i ⟨t.ops++[o],t.eI,t.jx⟩ }:=by
 have uA:=aC hu;have hx:(Value.slice (some ⟨xb,0,none⟩) s.dV.length cap).ownBlock=some xb:=rfl;obtain ⟨_,hxl,cur,ty,fr,RQ,_,q1,q2,q3⟩:=h.cells kr (k:=xb) (.inr (.inl hx));have hr:=h.row;have Mo:∀ v∈vs,v.ownBlock≠some xb:=fun v hv e=>by
  have:=(q1 hx).symm.trans (q3 ⟨v,hv,e⟩);exact absurd this (by decide)
 have hgx:gs≠xb:=fun e=>by have:=(q1 hx).symm.trans (q2 (Eq.symm e));exact absurd this (by decide)
 have Xj:∀ v∈vs,v.ownBlock≠some gs:=fun v hv e=>by
  obtain ⟨_,_,cur,ty,fr,_,_,_,p2,p3⟩:=h.cells kr (k:=gs) (.inl rfl);have:=(p2 rfl).symm.trans (p3 ⟨v,hv,e⟩);exact absurd this (by decide)
 have hlt:∀ v∈vs,∀ k,v.ownBlock=some k->k<w.heap.size:=fun v hv k hk=>(h.cells kr (k:=k) (.inr (.inr ⟨v,hv,hk⟩))).2.1;have oQ:Mod (eF xb) w7 (w7.setCell ⟨xb,i*3,none⟩ v7):=Mod.dq xb _ _;have hM:Mod (fun k=>u.ownBlock=some k\/k=xb) w (w7.setCell ⟨xb,i*3,none⟩ v7):=(hm.mono (fun _ _ e=>.inl e)).trans (oQ.mono (fun _ _ e=>.inr e));have hil:=(aB.1 hu).1;have h7x:v7.ownBlock≠some xb:=fun e=>by
  rcases hmv xb e with q | q
  ·exact Mo u uA q
  ·omega
 have hno:∀ k,w.heap.size<=k->y.own k=.no:=fun k hk=>by
  by_cases e:y.own k=.no
  ·exact e
  ·have:=(h.house.own.lt k e).2;omega
 have r7:qp 46 w7 n (.slice (some ⟨xb,0,none⟩) s.dV.length cap) s.dV vs:=hr.mod hm (fun k hk e=>by rw [hx] at hk;cases hk;exact Mo u uA e);refine ⟨h.blk.mod hM (fun e=>e.elim (Xj u uA) hgx),h.rh kr hM (fun k _ e=>e.elim (fun e=>.inr (.inr ⟨u,uA,e⟩)) (fun e=>.inr (.inl (by rw [hx];exact ae some (Eq.symm e))))),?_,fun j x v hj hv=>?_,h.no,h.Fx,fun v hv k hk=>?_,fun a b p q k ha hb hp hq=>?_⟩
 ·have:=r7.Fj rfl hi (t.ops++[o]) v7;exact this
 ·rw [bw] at hj hv;by_cases e:i=j
  ·subst e;have pr:=(aB.1 hi).1;rw [aJ rfl,aJ pr] at hj;rw [aJ rfl,aJ hil] at hv
   cases hj
   cases hv
   exact hown.mod oQ (fun k hk e=>h7x (by have e':k=xb:=e;rw [e'] at hk;exact hk))
  ·rw [aE e] at hj hv;refine (h.ops j x v hj hv).mod hM (fun k hk q=>?_);rcases q with q | q
   ·exact e (h.apart i j u v k hu hv q hk)
   ·subst q;exact Mo v (aC hv) hk
 ·rcases bE hv with q | q
  ·exact h.EI v q k hk
  ·subst q;rcases hmv k hk with r | r
   ·exact h.EI u uA k r
   ·exact hno k r
 ·rw [bw] at ha hb;by_cases ea:i=a
  ·by_cases eb:i=b
   ·omega
   ·rw [aE eb] at hb;subst ea;rw [aJ rfl,aJ hil] at ha
    cases ha
    rcases hmv k hp with r | r
    ·exact absurd (h.apart i b u q k hu hb r hq) eb
    ·have:=hlt q (aC hb) k hq;omega
  ·rw [aE ea] at ha;by_cases eb:i=b
   ·subst eb;rw [aJ rfl,aJ hil] at hb
    cases hb
    rcases hmv k hq with r | r
    ·exact absurd (h.apart i a u p k hu ha r hp) ea
    ·have:=hlt p (aC ha) k hp;omega
   ·rw [aE eb] at hb;exact h.apart a b p q k ha hb hp hq
theorem ef.Fo{w w7:World}{n c gs g:Nat}{y:dX}{xv v7:Value}{vs:List Value}{s:dw}(h:ef w n c gs g y xv vs s)(kr:n<=gs)(f e:Int)(hm:Mod (fun k=>xv.ownBlock=some k) w w7)
  (hown:qp 46 w7 n v7 (s.dV++[⟨[],f,e⟩]) (vs++[.slice none 0 0])) (hmv:∀ k,v7.ownBlock=some k->xv.ownBlock=some k\/w.heap.size<=k) :
  ef (w7.setCell ⟨gs,1,none⟩ v7) n c gs g y v7 (vs++[.slice none 0 0]) { s with dV:=s.dV++[⟨[],f,e⟩] }:=by
 obtain ⟨_,hgl,cur,ty,fr,_,_,q1,q2,q3⟩:=h.cells kr (k:=gs) (.inl rfl);have hgx:xv.ownBlock≠some gs:=fun e=>by have:=(q1 e).symm.trans (q2 rfl);exact absurd this (by decide)
 have Xj:∀ v∈vs,v.ownBlock≠some gs:=fun v hv e=>by have:=(q2 rfl).symm.trans (q3 ⟨v,hv,e⟩);exact absurd this (by decide)
 have Mo:∀ v∈vs,∀ k,v.ownBlock=some k->xv.ownBlock≠some k:=fun v hv k hk e=>by
  obtain ⟨_,_,cur,ty,fr,_,_,p1,_,p3⟩:=h.cells kr (k:=k) (.inr (.inl e));have:=(p1 e).symm.trans (p3 ⟨v,hv,hk⟩);exact absurd this (by decide)
 have oQ:Mod (eF gs) w7 (w7.setCell ⟨gs,1,none⟩ v7):=Mod.dq gs _ _;have hM:Mod (fun k=>xv.ownBlock=some k\/k=gs) w (w7.setCell ⟨gs,1,none⟩ v7):=(hm.mono (fun _ _ e=>.inl e)).trans (oQ.mono (fun _ _ e=>.inr e));have h7g:v7.ownBlock≠some gs:=fun e=>by
  rcases hmv gs e with q | q
  ·exact hgx q
  ·omega
 have hno:∀ k,w.heap.size<=k->y.own k=.no:=fun k hk=>by
  by_cases e:y.own k=.no
  ·exact e
  ·have:=(h.house.own.lt k e).2;omega
 have hvl:=h.row.1;have hnl:∀ k,(Value.slice none 0 0).ownBlock≠some k:=fun k e=>by cases e
 refine ⟨?_,h.rh kr hM (fun k _ e=>e.elim (fun e=>.inr (.inl e)) .inl),hown.mod oQ (fun k hk e=>h7g (by have e':k=gs:=e;rw [e'] at hk;exact hk)),fun j x v hj hv=>?_,h.no,fun k hk=>?_,fun v hv k hk=>?_,fun a b p q k ha hb hp hq=>?_⟩
 ·exact (h.blk.mod hm hgx).set 1 v7
 ·by_cases hjl:j<s.dV.length
  ·rw [aI hjl] at hj;rw [aI (by omega)] at hv;refine (h.ops j x v hj hv).mod hM (fun k hk q=>?_);rcases q with q | q
   ·exact Mo v (aC hv) k hk q
   ·subst q;exact Xj v (aC hv) hk
  ·rw [aO (by omega)] at hj;rw [aO (by omega)] at hv;have e0:j - s.dV.length=0:=by have:=(aB.1 hj).1;simp at this;omega
   have e1:j - vs.length=0:=by omega
   rw [e0] at hj;rw [e1] at hv
   cases hj
   cases hv
   exact World.ownsRow_nil _ _ _ _
 ·rcases hmv k hk with r | r
  ·exact h.Fx k r
  ·exact hno k r
 ·rcases aL.1 hv with q | q
  ·exact h.EI v q k hk
  ·rw [bK] at q;subst q;exact absurd hk (hnl k)
 ·have sp:∀ (a:Nat) (p:Value),(vs++[Value.slice none 0 0])[a]?=some p->p.ownBlock=some k->vs[a]?=some p:=fun a p ha hp=>by
   by_cases hal:a<vs.length
   ·rw [aI hal] at ha;exact ha
   ·rw [aO (by omega)] at ha;have e1:a - vs.length=0:=by have:=(aB.1 ha).1;simp at this;omega
    rw [e1] at ha
    cases ha
    exact absurd hp (hnl k)
  exact h.apart a b p q k (sp a p ha hp) (sp b q hb hq) hp hq
end Go.Proofs.YtmaiggbnceejiaaGreatDoor
