import Derived.Test.YtmaiggbnceejiaaGreatDoorS17
import Derived.RangeFuncNested
import Derived.RangeFuncBound
import Derived.RangeFuncCalls
import Derived.RangeFuncLeaves
import Derived.Shelf.Abstract
import Derived.OwnWalkIn
import Derived.TacticsInMore
import Derived.LoopNIn
import Derived.LoopIn
set_option linter.unusedVariables false
set_option maxRecDepth 100000
set_option maxHeartbeats 16000000
namespace Go.Proofs.YtmaiggbnceejiaaGreatDoor
open Go.RowKit Go.Lib Go.Maps Go.Shelf
def vZ(s:dX)(m:Nat):Bool:=(List.range m).any fun k=>!(lx s k).isEmpty
theorem yQf(s:dX)(m:Nat):vZ s (m+1)=(vZ s m || !(lx s m).isEmpty):=by unfold vZ;rw [aj,List.any_append];simp
theorem tz.at{w:World}{a:Option Addr}{m cap:Nat}{cs:List dv}(h:tz w (.slice a m cap) cs){i:Nat}{d:dv}(hi:cs[i]?=some d):∃ b off ua um uc,a=some ⟨b,off,none⟩/\w.cell? ⟨b,off+i*4,none⟩=some (.int .i64 d.kind)/\w.cell? ⟨b,off+i*4+1,none⟩=some (.int .i64 d.tx)/\w.cell? ⟨b,off+i*4+2,none⟩=some (.int .i64 d.time)/\w.cell? ⟨b,off+i*4+3,none⟩=some (.slice ua um uc):=by
 obtain ⟨us,h1,h2⟩:=h;have hil:i<us.length:=by have:=(aB.1 hi).1;omega
 have hz:(cs.zip us)[i]?=some (d,us[i]):=by
  rw [List.getElem?_zip_eq_some];exact ⟨hi,aA hil⟩
 obtain ⟨b,off,l,e1,_,e3,_,e5⟩:=fV.at h2 hz;unfold Eg at e3;subst e3;have q0:=e5 0 _ rfl;simp only [bG] at q0;obtain ⟨ua,um,uc,hu⟩:=h1.2 us[i] (List.getElem_mem hil);have q3:=e5 3 _ rfl;dsimp only at q3;rw [hu] at q3;exact ⟨b,off,ua,um,uc,e1,q0,e5 1 _ rfl,e5 2 _ rfl,q3⟩
def KM(w:World)(y:dY)(v:Value)(cs:List dv):Prop:=tz w v cs/\(cs=[]\/∀ k,v.ownBlock=some k->y.own k=.no/\k<w.heap.size)
theorem KM.keep{w w':World}{y y':dY}{v:Value}{cs:List dv}(h:KM w y v cs)(k:iG w y w' y'):KM w' y' v cs:=by
 rcases h.2 with e | hq
 ·subst e;obtain ⟨us,h1,a,cap,h2,h3,h4,_⟩:=h.1;exact ⟨⟨us,h1,a,cap,h2,h3,h4,.inl (by simp)⟩,.inl rfl⟩
 ·exact ⟨h.1.mod k.md (fun z hz e=>e (hq z hz).1),.inr (fun z hz=>⟨by rw [k.old z (hq z hz).2];exact (hq z hz).1,aH (hq z hz).2 k.size⟩)⟩
theorem yKm(k:Nat)(s:dX)(cs:List dv)(c:dv):(cs++[c]).foldl (ot k) s=ot k (cs.foldl (ot k) s) c:=by rw [al];rfl
theorem zN.zo{w:World}{n b:Nat}{y:dY}{l:jG}(h:zN w n y b l)(hne:0<l.nodes.length):(l.nodes.getLastD Ei).log.length<=500:=by
 obtain ⟨d,hd,t,ht,hN⟩:=h.wN (j:=l.nodes.length - 1) (by omega);have htl:l.nodes.getLastD Ei=t:=by
  rw [EY _ _ hne];have:=aA (show l.nodes.length - 1<l.nodes.length by omega);rw [ht] at this;exact (ax this).symm
 rw [htl];exact hN.few.2
theorem ySs(n c g:Nat)(y:dY)(s:dX)(w:World)(h:dx w n c g y s)(hs:lr s)(hc:c<=10000)(hn:yUd s) :
  Calls Tryz.prog 82 #[.pointer (some ⟨g,0,none⟩)] w fun e w'=>e=.returned (.bool (qe s))/\∃ y',dx w' n c g y' (oh s)/\eL w y w' y':=by
 obtain ⟨c0,-⟩:=kF h.blk;obtain ⟨la,ey,hlv⟩:=eu h.fi;have hll:=hs.ll;have hlen:=h.iQ;rw [hlv,hlen] at c0;have CX:Hid (y.lv=.slice la s.lines.length ey):=by unfold Hid;rw [hlv,hlen]
 have HH:=dV h;have HS:=dV hs;have HN:=dV hn;clear h hs hn hlv;go_enter Tryz.func82,Tryz.ntmps82;go_wp2_with fail;go_loopw [3,13] (fun f k0 wr=>∃ (k:Nat) (yr:dY),k<=s.lines.length/\k0=.int .i64 k/\f=.bool (vZ s k)/\dx wr n c g yr (nw s k)/\eL w y wr yr) (fun _ k0 _=>s.lines.length - (intOf k0).toNat)
 case atStart=>exact ⟨0,y,aT _,rfl,rfl,HH.out,eL.refl _ _⟩
 case round=>
  obtain ⟨k,yr,hkl,rfl,rfl,hH,hK⟩:=hrel;obtain ⟨wo,hwo⟩:∃ x,x=wr:=⟨_,rfl⟩;subst hwo;by_cases hlt:k<s.lines.length
  ·obtain ⟨hsm,FO,hwr⟩:=Uk s k hkl;have hk':k<(nw s k).lines.length:=by rw [hsm.ll];exact hlt
   have hsh:=hsm.shape HS.out (hwr HS.out.tw);obtain ⟨b,hb,hL⟩:=hH.nJ hk';obtain ⟨lg,cap',hv,cl⟩:=wB hH.fi hb;have FM:la=some ⟨lg,0,none⟩:=by
    have e:=hK.lv;rw [hv,CX.out] at e;simp only [Value.slice.injEq] at e;exact e.1.symm
   subst FM;have hnl:=hsh.nl _ (Jp hk');have yw:=yJy hkl;have DP:=HN.out k hlt;have htl:((nw s k).line k).nodes.getLastD Ei=qd s k:=by unfold qd;rw [hsm.nodes];rfl
   have SO:((nw s k).line k).heard=(s.line k).heard:=FO k (aF _);have CI:=hL.zo (by omega);rw [htl] at CI;have zG:=dV (yRw n b yr ((nw s k).line k) wo hL (by omega) (by omega) (by rw [htl,SO];exact DP.1));rw [show (((nw s k).line k).nodes.getLastD Ei).log.drop ((nw s k).line k).heard=lx s k by rw [htl,SO];rfl] at zG;have hcl:(s.line k).heard+(lx s k).length<=500:=by
    have:(lx s k).length=(qd s k).log.length - (s.line k).heard:=by unfold lx;rw [bO]
    omega
   have ku:=dV DP.2;have xu:(k:Int)<(s.lines.length:Int):=by omega
   have qs:(0:Int)<=(k:Int):=by omega
   have jH:=dV hH;have nt:=dV hK;have HB:=dV hb;have xB:=dV hsh;have xD:=dV SO;have GB:=dV (yQf s k);have jz:Hid (nw s (k+1)=(lx s k).foldl (ot k) (nw s k)):=by unfold Hid;rw [MQ];unfold il;rw [yw]
   have BM:=dV hk';have HTN:Hid ((nw s k).dW.length=s.dW.length):=hsm.len;clear hH hK hL hb hv hsm FO hwr hsh yw DP htl SO CI hnl hk';generalize lx s k=cs at zG hcl ku GB jz;generalize nw s k=S at jH xB xD jz BM HTN;go_upto_region 5 with fail;go_wp2_with fail;refine zG.out.mono ?_;rintro e w2 ⟨v,rfl,hv2,hf2,hm2⟩;have Ak:KM w2 yr v cs:=by
    refine ⟨hv2,?_⟩;obtain ⟨us,hu,a',cap2,e1,_,_,e4⟩:=hv2;rcases e4 with e4 | ⟨b',off',e5,e6,_⟩
    ·left;have hz:(cs.zip us).length=cs.length:=by rw [cD];omega
     rw [e4] at hz;exact aR hz.symm
    ·right;intro z hz;have hz2:=hf2 z hz;refine ⟨?_,?_⟩
     ·by_cases e:yr.own z=.no
      ·exact e
      ·have:=(jH.out.own.lt z e).2;omega
     ·rw [e1,e5] at hz;simp [Value.ownBlock] at hz;subst hz;exact e6
   have hvs:∃ va vc,v=.slice va cs.length vc:=by
    obtain ⟨us,hu,a',cap2,e1,_⟩:=hv2;refine ⟨a',cap2,?_⟩;rw [e1,cD,hu.1,Nat.min_self]
   obtain ⟨va,vc,lI⟩:=hvs;subst lI;have Lb:=dV Ak;have lW:=dV (jH.out.quiet hm2);have xC:=dV (nt.out.trans (eL.quiet hm2));clear hv2 hf2 hm2 Ak jH nt zG;go_wp2_with fail;go_loopw [3,21] (fun f j0 wi=>∃ (j:Nat) (yi:dY),j<=cs.length/\j0=.int .i64 j/\f=.bool (vZ s k || decide (0<j))/\dx wi n c g yi ((cs.take j).foldl (ot k) S)/\eL w y wi yi/\eL w2 yr wi yi) (fun _ j0 _=>cs.length - (intOf j0).toNat)
   case atStart=>exact ⟨0,yr,aT _,rfl,by simp,lW.out,xC.out,eL.refl _ _⟩
   case round=>
    obtain ⟨j,yi,hjl,rfl,rfl,kQ,sI,tX⟩:=hrel;by_cases pF:j<cs.length
    ·obtain ⟨d,hd⟩:∃ d,cs[j]?=some d:=⟨_,aA pF⟩;obtain ⟨cb,coff,ua,um,uc,hca,q0,q1,q2,q3⟩:=tz.at (Lb.out.keep tX.st).1 hd;subst hca;obtain ⟨hx1,hx2⟩:=ku.out d (aC hd);obtain ⟨T,hT⟩:∃ T,T=(cs.take j).foldl (ot k) S:=⟨_,rfl⟩;have hTs:sd S T:=by rw [hT];exact Ul k _ S BM.out
     have hTw:∀ t∈T.dW,t.writes.length<=20:=by rw [hT];exact Ur k _ S xB.out.tw
     have hTh:(T.line k).heard=(s.line k).heard+j:=by
      rw [hT,Ra k _ S BM.out,aP rfl,xD.out,aZ];omega
     rw [<-hT] at kQ;have Oz:=hTs.shape xB.out hTw;have hTk:k<T.lines.length:=by rw [hTs.ll];exact BM.out
     have BH:Hid ((cs.take (j+1)).foldl (ot k) S=ot k T d):=by unfold Hid;rw [qg hd,yKm,hT]
     obtain ⟨kind,tx,time,KU⟩:=d;dsimp only at q0 q1 q2 hx1 hx2;obtain ⟨w3,hw3⟩:∃ z,z=wr.alloc (.cells #[.int .i64 kind,.int .i64 tx,.int .i64 time,.slice ua um uc] 65):=⟨_,rfl⟩;have dy:Mod dZ wr w3:=by rw [hw3];exact (Mod.refl _ wr).alloc _
     have hb3:dg w3 wr.heap.size [.int .i64 kind,.int .i64 tx,.int .i64 time,.slice ua um uc] 65:=by rw [hw3];exact dg.new wr _ _
     have x0:=hb3.cell 0 rfl;have x1:=hb3.cell 1 rfl;have x2:=hb3.cell 2 rfl;have x3:=hb3.cell 3 rfl;have Jb:=dV (yKo n c g yi T k ⟨kind,tx,time,KU⟩ (.slice ua um uc) w3 (kQ.quiet dy) Oz hc hTk ⟨hx1,by rw [hTs.len,HTN.out];exact hx2⟩);have tr:=dV (sI.trans (eL.quiet dy));have BF:=dV (tX.trans (eL.quiet dy));have IW:(j:Int)<(cs.length:Int):=by omega
     have Kl:(0:Int)<=(j:Int):=by omega
     have oc:=dV hTs;have hTf:=gG.follow T k ⟨kind,tx,time,KU⟩;have HTF:=dV hTf;have hzb:cb<wr.heap.size:=World.block_lt_of_cell? wr _ q0;clear kQ sI tX hd hT hTw Oz hb3 hTf hTs;go_upto_region 8 with fail;rw [<-hw3];clear hw3 q0 q1 q2 q3;go_wp2_with fail;refine Jb.out.mono ?_;rintro e w4 ⟨rfl,y4,pV,hK4⟩;have hk4:k<(lz T k ⟨kind,tx,time,KU⟩).lines.length:=by rw [HTF.out.l];exact hTk
     have hb4:y4.gF[k]?=some b:=by rw [hK4.l,BF.out.l];exact HB.out
     have hL4:=pV.line k b _ hb4 (ma hk4);have Xq:((lz T k ⟨kind,tx,time,KU⟩).line k).heard=(s.line k).heard+j:=by
      rw [<-hTh];unfold dX.line;rw [HTF.out.l]
     have l1:=hL4.blk.cell 1 rfl;have f1:=hL4.blk.frozen 1;have zl:=hL4.blk.lt;obtain ⟨w5,pB⟩:∃ z,z=w4.setCell ⟨b,1,none⟩ (.int .i64 (((lz T k ⟨kind,tx,time,KU⟩).line k).heard+1:Nat)):=⟨_,rfl⟩;have eP:Mod (eA b) w4 w5:=by rw [pB];exact Mod.dt b 1 _
     have vT:dg w5 b [y4.rR b,.int .i64 (((lz T k ⟨kind,tx,time,KU⟩).line k).heard+1:Nat)] 120:=by rw [pB];exact hL4.blk.set 1 _
     obtain ⟨kt,pG⟩:=pV.Ms hk4 hb4 eP vT;have HF:Hid (dx w5 n c g y4 ((cs.take (j+1)).foldl (ot k) S)/\eL w y w5 y4/\eL w2 yr w5 y4):=by
      unfold Hid;rw [BH.out];exact ⟨kt,(tr.out.trans hK4).trans pG,(BF.out.trans hK4).trans pG⟩
     rw [Xq] at l1 pB;have NV:w5=w4.setCell ⟨b,1,none⟩ (.int .i64 (((s.line k).heard:Int)+(j:Int)+1)):=by rw [pB];congr 2
     have NM:w4.cell? ⟨b,1,none⟩=some (.int .i64 (((s.line k).heard:Int)+(j:Int))):=by rw [l1];congr 2
     clear pV hK4 hL4 eP vT kt pG l1 pB Jb;go_upto_region 10 with fail;rw [<-NV];clear NV NM f1;go_wp2_with fail;go_roundw
     case rel=>exact ⟨j+1,y4,by omega,by go_num,by simp,HF.out.1,HF.out.2.1,HF.out.2.2⟩
     case measure=>simp [intOf];omega
    ·obtain rfl:j=cs.length:=by omega
     rw [bJ] at kQ;have HF:Hid (dx wr n c g yi (nw s (k+1))/\eL w y wr yi):=⟨by rw [jz.out];exact kQ,sI⟩;have zK:Hid (vZ s (k+1)=(vZ s k || decide (0<cs.length))):=by
      unfold Hid;rw [GB.out];congr 1
      cases cs <;> simp
     clear kQ sI tX Lb;go_wp2_with fail;go_roundw
     case rel=>exact ⟨k+1,yi,by omega,by go_num,by rw [zK.out],HF.out.1,HF.out.2⟩
     case measure=>simp [intOf];omega
  ·obtain rfl:k=s.lines.length:=by omega
   have HF:Hid (∃ y',dx wo n c g y' (oh s)/\eL w y wo y'):=⟨yr,hH,hK⟩;clear hH hK;go_wp2_with fail;go_ret;exact ⟨rfl,HF.out⟩
theorem zXo(x:Int):∀ l:List Int,decide (NA (rj x l) ≥ 0)=decide (x∈l)
 | []=>rfl
 | a :: l=>by
  have ih:=zXo x l;unfold rj;by_cases h:x=a
  ·rw [aP h];subst h;simp [NA]
  ·rw [aK h];have e:decide (x∈a :: l)=decide (x∈l):=by simp [h]
   rw [e,<-ih]
   cases rj x l with
   | none=>rfl
   | some k=>simp [NA];omega
theorem zQe(v:Value)(ns:List Int)(x:Int)(w:World)(hv:jA w v ns) :
  Calls Tryz.prog 76 #[v,.int .i64 x] w fun e w'=>e=.returned (.bool (decide (x∈ns)))/\w'=w:=by
 have HI:=dV (zXg v ns x w hv);obtain ⟨a,cap,rfl,hc1,hc2,hcl⟩:=hv;have HM:=dV (zXo x ns);clear hcl;go_enter Tryz.func76,Tryz.ntmps76;go_wp2_with fail;refine HI.out.mono ?_;rintro e w1 ⟨rfl,rfl⟩;go_wp2_with fail;go_ret;exact ⟨by rw [<-HM.out];rfl,rfl⟩
theorem yNf(n b:Nat)(y:dY)(t:jR)(w:World)(h:th w n y b t) :
  Calls Tryz.prog 124 #[.pointer (some ⟨b,0,none⟩)] w fun e w'=>e=.returned (.bool (ue t))/\w'=w:=by
 have HC:=dV (zQe (y.jQ b) t.ats 1 w (jA.iA h.ats));have c1:=h.blk.cell 1 rfl;obtain ⟨a,cap,hv⟩:=eu h.ats;rw [hv] at c1 HC;clear h hv;have HR:Hid (ue t=!decide ((1:Int)∈t.ats)):=rfl
 cases hd:decide ((1:Int)∈t.ats)
 all_goals
  rw [hd] at HC HR;go_enter Tryz.func124,Tryz.ntmps124;go_wp2_with fail;refine HC.out.mono ?_;rintro e w1 ⟨rfl,rfl⟩;go_wp2_with fail;go_ret;exact ⟨by rw [HR.out];rfl,rfl⟩
theorem Mod.putObj{G:Nat->Prop}{a w:World}(h:Mod G a w){r:Nat}(hr:r<a.heap.size->G r)(o:Obj):Mod G a (w.putObj r o):=
 ⟨h.os,h.tape,h.output,by simpa using h.size,fun k hk hG=>by rw [World.putObj_heap_other (fun e=>hG (by subst e;exact hr hk))];exact h.block k hk hG⟩
def yW{β:Type}(N:Nat)(J:β->World->Prop):Prop:=∀ s A B,Mod (jN N) A B->N<=A.heap.size->J s A->J s B
def VO{α:Type}(m:Nat)(P:Program)(l:Nat)(mM:α->Array Value)(X:Nat->Prop)(xs:List α)(J:List α->World->Prop)(Jx:World->Prop):Prop:=
 ∀ pre x rest A,xs=pre++x :: rest->J pre A->YieldAt Fence.wide m P l (mM x) A fun e B=>Mod X A B/\((e=.returned (.bool true)/\J (pre++[x]) B)\/(e=.returned (.bool false)/\Jx B))
def Iter{α:Type}(n:Nat)(P:Program)(g:Nat)(lb:Array Value)(mM:α->Array Value)(R:Nat->Prop)(xs:List α)(w:World):Prop:=
 ∀ (l:Nat) (X:Nat->Prop) (J:List α->World->Prop) (Jx:World->Prop) (W:World),Mod dZ w W->(∀ k,X k->k<W.heap.size/\¬ R k) ->
  yW W.heap.size J->yW W.heap.size (fun (_:Unit)=>Jx)->VO (n - 1) P l mM X xs J Jx->J [] W ->
  CallsIn Fence.wide n P g (#[.func (.yield l) #[] #[]]++lb) W fun e B=>(∃ v,e=.returned v)/\Mod X W B/\(J xs B\/Jx B)
def VV{α:Type}(X:Nat->Prop)(I:List α->World->Prop)(Ix:Code->World->Prop)(xs:List α)(W:World):Exit->Act->World->Prop
 | .normal,_,B=>Mod X W B/\I xs B
 | .ret,_,B=>Mod X W B/\Ix .ret B
 | .exit id,_,B=>Mod X W B/\Ix (.exit id) B
 | .goto t,_,B=>Mod X W B/\Ix (.goto t) B
 | .panic _,_,_=>False
 | .outgrown,_,_=>False
theorem yBn{α:Type}{F:Fence}{n:Nat}{P:Program}{g:Operand}{ps:Array Tmp}{assign body:Code}{Q:Exit->Act->World->Prop}{a:Act}{w:World}
  (hfn:F.fn=fun _=>True) (Xx:F.depth=none) (hal:F.alive=false)
  {l:Nat} {d:Nat} {mark:List Deferred} {lay:Obj->World} (hen:∀ fn,(Instr.enterLoop fn a.tmps ps assign body F.round).run P w=.ok (l,mark) (lay (.loop { state:=.ready,pending:=none,fn,tmps:=a.tmps,params:=ps,assign,body,defers:=d })))
  (Xj:∀ o,Mod dZ w (lay o)/\(lay o).heap[l]?=some o) (hl:w.heap.size<=l)
  {gf:Nat} {lb:Array Value} (hg:a.eval g=.func (.func gf) #[] lb) (eg:∀ args w,(callFunc gf args).run P w=.ok (.enter gf args) w)
  {mM:α->Array Value} {R:Nat->Prop} {xs:List α} (hit:Iter (n - 1) P gf lb mM R xs w) (hps:∀ x,(mM x).size=ps.size)
  (X:Nat->Prop) (hX:∀ k,X k->k<w.heap.size/\¬ R k) (hR:∀ k,R k->k<w.heap.size)
  (I:List α->World->Prop) (Ix:Code->World->Prop) (hI:yW w.heap.size I) (LF:yW w.heap.size Ix) (h0:I [] w)
  (pz:∀ (pre:List α) (x:α) (rest:List α) (W:World),xs=pre++x :: rest->I pre W->l<W.heap.size ->
   assign.wpIn (Fence.wide.inRound l) (n - 1 - 1) P (Exit.then (fun a' Wa=>Mod dZ W Wa/\∀ Wb,Mod (eA l) Wa Wb->(∃ r,Wb.heap[l]?=some (.loop r))->I pre Wb->body.wpIn (Fence.wide.inRound l) (n - 1 - 1) P (VV X I Ix (pre++[x]) Wb) a' Wb) (fun _ _ _=>False))
    { tmps:=(ps.zip (mM x)).foldl (fun t (p,v)=>t.setIfInBounds p v) a.tmps,defers:=[] } W)
  (hdone:∀ W o,Mod (fun k=>X k\/k=l) (lay o) W->I xs W->Q .normal { a with defers:=mark++a.defers } W)
  (sx:∀ c W o,Mod (fun k=>X k\/k=l) (lay o) W->Ix c W->c.wpIn F n P Q { a with defers:=mark++a.defers } W) :
  (Code.rangeFunc g ps assign body).wpIn F n P Q a w:=by
 obtain ⟨ffn,fdp,fal,fro⟩:=F;dsimp only at hfn Xx hal;subst hfn Xx hal;refine wpIn_rangeFunc ?_;intro fn _;obtain ⟨rec,hrec⟩:∃ rec:LoopState->Option Code->Loop,rec=fun st pe=>{ state:=st,pending:=pe,fn,tmps:=a.tmps,params:=ps,assign,body,defers:=d }:=⟨_,rfl⟩;obtain ⟨dh,LB⟩:=Xj (.loop (rec .ready none));have hne:=hen fn;obtain ⟨W1,hW1⟩:∃ z,z=lay (.loop (rec .ready none)):=⟨_,rfl⟩;rw [<-hW1] at dh LB;have qp:(Instr.enterLoop fn a.tmps ps assign body fro).run P w=.ok (l,mark) W1:=by rw [hW1,hrec];exact hne
 have Xi:l<W1.heap.size:=(aG.1 LB).1;have hput:∀ {W:World} {pre:List α} (o:Obj),w.heap.size<=W.heap.size->I pre W->I pre (W.putObj l o):=fun o hs hi=>hI _ _ _ ((Mod.refl (jN w.heap.size) _).putObj (fun _=>hl) o) hs hi;have wV:∀ {W:World} {c:Code} (o:Obj),w.heap.size<=W.heap.size->Ix c W->Ix c (W.putObj l o):=fun o hs hi=>LF _ _ _ ((Mod.refl (jN w.heap.size) _).putObj (fun _=>hl) o) hs hi;refine ⟨l,mark,W1,{ target:=.fn (.func gf) lb,args:=#[.func (.yield l) #[] #[]] },W1,gf,#[.func (.yield l) #[] #[]]++lb,W1,qp,?_,fun _ _=>trivial,?_,fun e=>by simp at e,?_⟩
 ·simp only [resolve,hg];simp [go_sem]
 ·simp [invoke,go_sem,eg]
 ·have hc:=hit l (fun k=>X k\/k=l) (fun pre W=>I pre W/\w.heap.size<=W.heap.size/\W.heap[l]?=some (.loop (rec .ready none))) (fun W=>∃ c,Ix c W/\w.heap.size<=W.heap.size/\W.heap[l]?=some (.loop (rec .done (some c)))) W1 dh
   (fun k hk=>by
    rcases hk with hk | rfl
    ·exact ⟨aH (hX k hk).1 dh.size,(hX k hk).2⟩
    ·exact ⟨Xi,fun hr=>by have:=hR _ hr;omega⟩)
   (fun pre A B hm hs ⟨h1,h2,h3⟩=>⟨hI _ _ _ (hm.mono (fun i _ hi=>aJ dh.size hi)) h2 h1,aJ h2 hm.size,by rw [hm.block l (by omega) (by simp only [jN];omega)];exact h3⟩)
   (fun _ A B hm hs ⟨c,h1,h2,h3⟩=>⟨c,LF _ _ _ (hm.mono (fun i _ hi=>aJ dh.size hi)) h2 h1,aJ h2 hm.size,by rw [hm.block l (by omega) (by simp only [jN];omega)];exact h3⟩)
   (by
    rintro pre x rest A hx ⟨hi,hs,hlA⟩;have hy:=run_yield (P:=P) (args:=mM x) hlA (by rw [hrec];exact hps x);rw [hrec] at hy;refine ⟨fn,_,assign,body,hy,roundIn_of_wpIn (by trivial) (wpIn_mono (pz pre x rest A hx hi (aG.1 hlA).1) ?_)⟩;clear hy;rintro e a' Wa hp
    cases e with
    | normal=>
     obtain ⟨IL,hb⟩:=hp;have Xg:l<A.heap.size:=(aG.1 hlA).1;have FM:Wa.heap[l]?=some (.loop (rec .ready none)):=by rw [IL.block l Xg id];exact hlA
     have Xf:l<Wa.heap.size:=(aG.1 FM).1;refine ⟨_,run_beginRound FM (by rw [hrec]),?_⟩;obtain ⟨Wb,SU⟩:∃ z,z=Wa.putObj l (.loop { rec .ready none with state:=.busy }):=⟨_,rfl⟩;have hlb:Wb.heap[l]?=some (.loop { rec .ready none with state:=.busy }):=by rw [SU];exact World.putObj_heap_same Xf
     have Xe:l<Wb.heap.size:=(aG.1 hlb).1;have hmb:Mod (eA l) Wa Wb:=by rw [SU];exact Mod.putObj (G:=eA l) (Mod.refl (eA l) Wa) (fun _=>(rfl:l=l)) _
     have SN:I pre Wa:=hI _ _ _ (IL.mono (fun _ _ e=>e.elim)) hs hi;have hib:I pre Wb:=by rw [SU];exact hput _ (aJ hs IL.size) SN
     rw [<-SU];have OK:Mod (fun k=>X k\/k=l) A Wb:=(IL.mono (fun _ _ e=>e.elim)).trans (hmb.mono (fun _ _ e=>.inr e));refine wpIn_mono (hb Wb hmb ⟨_,hlb⟩ hib) ?_;have fin:∀ (jump:Option Code) (W3:World),Mod X Wb W3 ->
       (Instr.endRound l jump).run P W3=.ok (.bool jump.isNone) (W3.putObj l (.loop (rec (if jump.isNone then .ready else .done) jump)))/\w.heap.size<=W3.heap.size /\
       (W3.putObj l (.loop (rec (if jump.isNone then .ready else .done) jump))).heap[l]?=some (.loop (rec (if jump.isNone then .ready else .done) jump)) /\
       Mod (fun k=>X k\/k=l) A (W3.putObj l (.loop (rec (if jump.isNone then .ready else .done) jump))):=fun jump W3 hk3=>by
      have CD:W3.heap[l]?=some (.loop { rec .ready none with state:=.busy }):=by rw [hk3.block l Xe (fun e=>by have:=(hX l e).1;omega)];exact hlb
      have:=run_endRound (P:=P) jump CD;refine ⟨?_,aJ hs (aJ OK.size hk3.size),World.putObj_heap_same (aG.1 CD).1,(OK.trans (hk3.mono (fun _ _ e=>.inl e))).putObj (fun _=>.inr rfl) _⟩;rw [hrec] at this ⊢;exact this
     rintro e a3 W3 hp
     cases e with
     | normal=>
      obtain ⟨hr,hs3,hl4,gR⟩:=fin none W3 hp.1;exact ⟨_,_,hr,gR,.inl ⟨rfl,hput _ hs3 hp.2,by simpa using hs3,hl4⟩⟩
     | ret=>
      obtain ⟨hr,hs3,hl4,gR⟩:=fin (some .ret) W3 hp.1;exact ⟨_,_,hr,gR,.inr ⟨rfl,_,wV _ hs3 hp.2,by simpa using hs3,hl4⟩⟩
     | exit id=>
      obtain ⟨hr,hs3,hl4,gR⟩:=fin (some (.exit id)) W3 hp.1;exact ⟨_,_,hr,gR,.inr ⟨rfl,_,wV _ hs3 hp.2,by simpa using hs3,hl4⟩⟩
     | goto t=>
      obtain ⟨hr,hs3,hl4,gR⟩:=fin (some (.goto t)) W3 hp.1;exact ⟨_,_,hr,gR,.inr ⟨rfl,_,wV _ hs3 hp.2,by simpa using hs3,hl4⟩⟩
     | panic ch=>exact hp.elim
     | outgrown=>exact hp.elim
    | ret=>exact hp.elim
    | exit id=>exact hp.elim
    | goto t=>exact hp.elim
    | panic ch=>exact hp.elim
    | outgrown=>exact hp.elim)
   ⟨hI _ _ _ (dh.mono (fun _ _ e=>e.elim)) (aF _) h0,dh.size,LB⟩
  have hc':CallsIn { fn:=fun _=>True,depth:=none,alive:=false,round:=fro } (n - 1) P gf (#[.func (.yield l) #[] #[]]++lb) W1 fun e B=>(∃ v,e=.returned v)/\Mod (fun k=>X k\/k=l) W1 B/\((I xs B/\w.heap.size<=B.heap.size/\B.heap[l]?=some (.loop (rec .ready none)))\/∃ c,Ix c B/\w.heap.size<=B.heap.size/\B.heap[l]?=some (.loop (rec .done (some c)))):=hc;refine hc'.mono ?_;rintro e W2 ⟨⟨v,rfl⟩,hm2,⟨hi,hs2,hl2⟩ | ⟨c,hi,hs2,hl2⟩⟩
  ·exact ⟨none,_,by have:=run_endLoop (P:=P) hl2 (by rw [hrec];simp);rw [hrec] at this;exact this,hdone _ (.loop (rec .ready none)) (by rw [hW1] at hm2;exact hm2.putObj (fun _=>.inr rfl) _) (hput _ hs2 hi)⟩
  ·exact ⟨some c,_,by have:=run_endLoop (P:=P) hl2 (by rw [hrec];simp);rw [hrec] at this;exact this,sx c _ (.loop (rec .ready none)) (by rw [hW1] at hm2;exact hm2.putObj (fun _=>.inr rfl) _) (wV _ hs2 hi)⟩
theorem RH{α:Type}{n:Nat}{P:Program}{g:Operand}{ps:Array Tmp}{assign body:Code}{Q:Exit->Act->World->Prop}{a:Act}{w:World}
  {gf:Nat} {lb:Array Value} (hg:a.eval g=.func (.func gf) #[] lb) (eg:∀ args w,(callFunc gf args).run P w=.ok (.enter gf args) w)
  {mM:α->Array Value} {R:Nat->Prop} {xs:List α} (hit:Iter (n - 1) P gf lb mM R xs w) (hps:∀ x,(mM x).size=ps.size)
  (X:Nat->Prop) (hX:∀ k,X k->k<w.heap.size/\¬ R k) (hR:∀ k,R k->k<w.heap.size)
  (I:List α->World->Prop) (Ix:Code->World->Prop) (hI:yW w.heap.size I) (LF:yW w.heap.size Ix) (h0:I [] w)
  (pz:∀ (pre:List α) (x:α) (rest:List α) (W:World),xs=pre++x :: rest->I pre W->w.heap.size+1<W.heap.size ->
   assign.wpIn (Fence.wide.inRound (w.heap.size+1)) (n - 1 - 1) P (Exit.then (fun a' Wa=>Mod dZ W Wa/\∀ Wb,Mod (eA (w.heap.size+1)) Wa Wb->(∃ r,Wb.heap[w.heap.size+1]?=some (.loop r))->I pre Wb->body.wpIn (Fence.wide.inRound (w.heap.size+1)) (n - 1 - 1) P (VV X I Ix (pre++[x]) Wb) a' Wb) (fun _ _ _=>False))
    { tmps:=(ps.zip (mM x)).foldl (fun t (p,v)=>t.setIfInBounds p v) a.tmps,defers:=[] } W)
  (hdone:∀ W,Mod X w W->W.heap[w.heap.size]?=some (.deferred (some []))->I xs W->Q .normal { a with defers:={ target:=.collected w.heap.size,args:=#[] } :: a.defers } W)
  (sx:∀ c W,Mod X w W->W.heap[w.heap.size]?=some (.deferred (some []))->Ix c W->c.wpIn Fence.wide n P Q { a with defers:={ target:=.collected w.heap.size,args:=#[] } :: a.defers } W) :
  (Code.rangeFunc g ps assign body).wpIn Fence.wide n P Q a w:=by
 have hb:∀ {o W},Mod (fun k=>X k\/k=w.heap.size+1) ((w.alloc (.deferred (some []))).alloc o) W->Mod X w W/\W.heap[w.heap.size]?=some (.deferred (some [])):=fun {o W} h=>
  ⟨(((Mod.refl X w).alloc _).alloc _).trans' (h.mono (fun i _ e=>e)) (fun i hi e=>e.elim id (fun e=>by omega)),by
   rw [h.block w.heap.size (by simp;omega) (fun e=>e.elim (fun e=>absurd (hX _ e).1 (by omega)) (fun e=>by omega))];rw [heap_alloc_old _ _ (by simp)];exact heap_alloc_new w _⟩
 refine yBn (F:=Fence.wide) (l:=w.heap.size+1) (d:=w.heap.size) (mark:=[{ target:=.collected w.heap.size,args:=#[] }]) (lay:=fun o=>(w.alloc (.deferred (some []))).alloc o) rfl rfl rfl (fun fn=>run_enterLoop_outer _ _ _ _ _) (fun o=>⟨((Mod.refl _ w).alloc _).alloc _,?_⟩) (by omega) hg eg hit hps X hX hR I Ix hI LF h0 pz
  (fun W o hm hi=>hdone W (hb hm).1 (hb hm).2 hi) (fun c W o hm hi=>sx c W (hb hm).1 (hb hm).2 hi)
 have:=heap_alloc_new (w.alloc (.deferred (some []))) o;simpa using this
theorem yRm{α:Type}{n:Nat}{P:Program}{g:Operand}{ps:Array Tmp}{assign body:Code}{Q:Exit->Act->World->Prop}{a:Act}{w:World}
  {l₀:Nat} {r₀:Loop} (hl₀:w.heap[l₀]?=some (.loop r₀)) {gf:Nat} {lb:Array Value} (hg:a.eval g=.func (.func gf) #[] lb) (eg:∀ args w,(callFunc gf args).run P w=.ok (.enter gf args) w)
  {mM:α->Array Value} {R:Nat->Prop} {xs:List α} (hit:Iter (n - 1) P gf lb mM R xs w) (hps:∀ x,(mM x).size=ps.size)
  (X:Nat->Prop) (hX:∀ k,X k->k<w.heap.size/\¬ R k) (hR:∀ k,R k->k<w.heap.size)
  (I:List α->World->Prop) (Ix:Code->World->Prop) (hI:yW w.heap.size I) (LF:yW w.heap.size Ix) (h0:I [] w)
  (pz:∀ (pre:List α) (x:α) (rest:List α) (W:World),xs=pre++x :: rest->I pre W->w.heap.size<W.heap.size ->
   assign.wpIn (Fence.wide.inRound w.heap.size) (n - 1 - 1) P (Exit.then (fun a' Wa=>Mod dZ W Wa/\∀ Wb,Mod (eA w.heap.size) Wa Wb->(∃ r,Wb.heap[w.heap.size]?=some (.loop r))->I pre Wb->body.wpIn (Fence.wide.inRound w.heap.size) (n - 1 - 1) P (VV X I Ix (pre++[x]) Wb) a' Wb) (fun _ _ _=>False))
    { tmps:=(ps.zip (mM x)).foldl (fun t (p,v)=>t.setIfInBounds p v) a.tmps,defers:=[] } W)
  (hdone:∀ W,Mod X w W->I xs W->Q .normal a W)
  (sx:∀ c W,Mod X w W->Ix c W->c.wpIn (Fence.wide.inRound l₀) n P Q a W) :
  (Code.rangeFunc g ps assign body).wpIn (Fence.wide.inRound l₀) n P Q a w:=by
 have hb:∀ {o W},Mod (fun k=>X k\/k=w.heap.size) (w.alloc o) W->Mod X w W:=fun {o W} h=>
  ((Mod.refl X w).alloc _).trans' (h.mono (fun i _ e=>e)) (fun i hi e=>e.elim id (fun e=>by omega))
 exact yBn (F:=Fence.wide.inRound l₀) (l:=w.heap.size) (d:=r₀.defers) (mark:=[]) (lay:=fun o=>w.alloc o) rfl rfl rfl (fun fn=>run_enterLoop_inner hl₀ _ _ _ _ _) (fun o=>⟨(Mod.refl _ w).alloc _,heap_alloc_new w o⟩) (aF _) hg eg hit hps X hX hR I Ix hI LF h0 pz
  (fun W o hm hi=>hdone W (hb hm) hi) (fun c W o hm hi=>sx c W (hb hm) hi)
attribute [local go_sem] Oper.semAt_some
theorem yDr{α:Type}(us:List α)(q:Nat)(hq:q<us.length):us.zipIdx.reverse=(us.zipIdx.drop (q+1)).reverse++(us[q],q) :: (us.zipIdx.take q).reverse/\(us.zipIdx.drop (q+1)).reverse++[(us[q],q)]=(us.zipIdx.drop q).reverse:=by
 have h:us.zipIdx.drop q=(us[q],q) :: us.zipIdx.drop (q+1):=by
  rw [bh (by simpa using hq)];simp
 refine ⟨?_,by rw [h];simp⟩;have e:=(aq q us.zipIdx).symm;rw [h] at e;exact (ai List.reverse e).trans (by simp)
def Aw(x:fQ × Nat):Array Value:=#[.int .i64 (x.2:Int),.agg #[.string x.1.key,.string x.1.val,.bool x.1.gone]]
theorem yPy(n:Nat)(l Bs rb off cap:Nat)(X:Nat->Prop)(us:List (fQ))(hlen:us.length<=1000000)(J:List (fQ × Nat)->World->Prop)(Jx:World->Prop)
  (hY:VO (n - 1) Tryz.prog l Aw X (us.zipIdx.reverse) J Jx)
  (W:World) (hX1:¬ X Bs) (yD:¬ X rb) (Iv:W.cell? ⟨Bs,0,none⟩=some (.slice (some ⟨rb,off,none⟩) us.length cap)) (hc:∀ j (hj:j<us.length),W.cell? ⟨rb,off+j*3,none⟩=some (.string us[j].key)/\W.cell? ⟨rb,off+j*3+1,none⟩=some (.string us[j].val)/\W.cell? ⟨rb,off+j*3+2,none⟩=some (.bool us[j].gone)) (h0:J [] W) :
  CallsIn Fence.wide n Tryz.prog 157 #[.func (.yield l) #[] #[],.pointer (some ⟨Bs,0,none⟩)] W fun e B=>(∃ v,e=.returned v)/\Mod X W B/\(J (us.zipIdx.reverse) B\/Jx B):=by
 refine callsIn_of_wp Tryz.func157 rfl trivial ?_ rfl;simp only [Tryz.ntmps157,bC,aW,az,Nat.reduceAdd,Nat.reduceSub,bb,ba,bp,bd,aY,bF]
 gi_wp2
 gi_loopw [3] (fun i wr=>∃ q:Nat,q<=us.length/\i=.int .i64 ((q:Int) - 1)/\J ((us.zipIdx.drop q).reverse) wr/\Mod X W wr) (fun i _=>(intOf i+1).toNat)
 case atStart=>exact ⟨us.length,aF _,rfl,by rw [dC (by simp)];exact h0,Mod.refl _ _⟩
 case round=>
  obtain ⟨q,hq,rfl,hJs,uP⟩:=hrel
  cases q with
  | zero=>
   gi_wp2
   go_end0;exact ⟨⟨_,rfl⟩,uP,.inl hJs⟩
  | succ q=>
   have DM:q<us.length:=by omega
   have hi:((q+1:Nat):Int) - 1=(q:Int):=by omega
   rw [hi];have hqI:(q:Int)<(us.length:Int):=by omega
   have hq0:(0:Int)<=(q:Int):=by omega
   have hqd:decide ((q:Int) ≥ 0)=true:=aQ (by omega);obtain ⟨c0,c1,c2⟩:=hc q DM;have c0':=uP.cell c0 yD;have c1':=uP.cell c1 yD;have Sl:=uP.cell c2 yD;have hb':=uP.cell Iv hX1;obtain ⟨u,hu⟩:∃ u,u=us[q]:=⟨_,rfl⟩;obtain ⟨hx,hnx⟩:=yDr us q DM;rw [<-hu] at hx hnx;obtain ⟨fn,tmps,assign,body,hy,hR⟩:=hY _ _ _ wr hx hJs;rw [hnx] at hR;dsimp only [Aw] at hy;rw [<-hu] at c0' c1' Sl;clear hu hx hnx c0 c1 c2
   gi_wp2
   refine ⟨fun e=>by simp [Fence.wide] at e,hR.mono ?_⟩;rintro e W3 ⟨dy,⟨rfl,hJ3⟩ | ⟨rfl,Is⟩⟩
   ·gi_wp2
    go_roundw
    case rel=>exact ⟨q,by omega,rfl,hJ3,uP.trans dy⟩
    case measure=>simp [intOf]
   ·gi_wp2
    refine bodyPost_ret (results_none rfl _ _ _) rfl ?_;exact ⟨⟨_,rfl⟩,uP.trans dy,.inr Is⟩
theorem yLl(n:Nat)(l Bs cap:Nat)(a:Option Addr)(J:World->Prop)(W:World)(Iv:W.cell? ⟨Bs,0,none⟩=some (.slice a 0 cap))(h0:J W) :
  CallsIn Fence.wide n Tryz.prog 157 #[.func (.yield l) #[] #[],.pointer (some ⟨Bs,0,none⟩)] W fun e B=>(∃ v,e=.returned v)/\B=W:=by
 refine callsIn_of_wp Tryz.func157 rfl trivial ?_ rfl;simp only [Tryz.ntmps157,bC,aW,az,Nat.reduceAdd,Nat.reduceSub,bb,ba,bp,bd,aY,bF]
 gi_wp2
 gi_loopw [3] (fun i wr=>i=.int .i64 (-1)/\wr=W) (fun _ _=>0)
 case atStart=>exact ⟨rfl,rfl⟩
 case round=>
  obtain ⟨rfl,rfl⟩:=hrel
  gi_wp2
  go_end0;exact ⟨⟨_,rfl⟩,rfl⟩
theorem yIm(l:Option Nat)(n:Nat)(a:Option Addr)(len cap:Nat)(w:World) :
  CallsIn Fence.wide n Tryz.prog 117 #[.slice a len cap] w fun e w'=>e=.returned (.func (.func 157) #[] #[.pointer (some ⟨w.heap.size,0,none⟩)])/\w'=w.alloc (.cells #[.slice a len cap] 63):=by
 refine callsIn_of_wp Tryz.func117 rfl trivial ?_ rfl;simp only [Tryz.ntmps117,bC,aW,az,Nat.reduceAdd,Nat.reduceSub,bb,ba,bp,bd,aY,bF]
 gi_wp2
 go_ret;exact ⟨rfl,rfl⟩
theorem zXx(n:Nat)(Bs:Nat)(v:Value)(us:List (fQ))(hlen:us.length<=1000000)(w:World)(hc:w.cell? ⟨Bs,0,none⟩=some v)(hs:fV w w.heap.size 3 Ca v us) :
  Iter n Tryz.prog 157 #[.pointer (some ⟨Bs,0,none⟩)] Aw (fun k=>k=Bs\/(us≠[]/\v.ownBlock=some k)) (us.zipIdx.reverse) w:=fun l X J Jx W hW hX _ _ hY h0=>by
 have hc':=hW.cell hc id;obtain ⟨a,cap,rfl,-,-,h4⟩:=hs.mod hW (fun _ _=>id) (fun _ _ e=>e);have h5:us=[]\/(us≠[]/\∃ b off,a=some ⟨b,off,none⟩/\∀ (i:Nat) d,us[i]?=some d->∃ cs,Ca d cs/\cs.length=3/\∀ (j:Nat) x,cs[j]?=some x->W.cell? ⟨b,off+i*3+j,none⟩=some x):=by
  by_cases hne:us=[]
  ·exact .inl hne
  ·exact .inr ⟨hne,h4.elim (fun e=>absurd e hne) (fun ⟨b,off,e1,_,e3⟩=>⟨b,off,e1,e3⟩)⟩
 rcases h5 with rfl | ⟨hne,b,off,rfl,hcs⟩
 ·refine (yLl n l Bs cap a (fun _=>True) W hc' trivial).mono ?_;rintro e B ⟨he,rfl⟩;exact ⟨he,Mod.refl _ _,.inl h0⟩
 ·refine yPy n l Bs b off cap X us hlen J Jx hY W (fun e=>(hX _ e).2 (.inl rfl)) (fun e=>(hX _ e).2 (.inr ⟨hne,rfl⟩)) hc' (fun j hj=>?_) h0;obtain ⟨cs,rfl,-,h⟩:=hcs j us[j] (aA hj);exact ⟨by simpa using h 0 _ rfl,by simpa using h 1 _ rfl,by simpa using h 2 _ rfl⟩
attribute [local go_sem] Oper.semAt_some
def Dr(x:(dv × Value) × Nat):Array Value:=#[.int .i64 (x.2:Int),.agg #[.int .i64 x.1.1.kind,.int .i64 x.1.1.tx,.int .i64 x.1.1.time,x.1.2]]
theorem yPz(n:Nat)(l Bs rb off cap:Nat)(X:Nat->Prop)(us:List ((dv × Value)))(hlen:us.length<=1000000)(J:List ((dv × Value) × Nat)->World->Prop)(Jx:World->Prop)
  (hY:VO (n - 1) Tryz.prog l Dr X (us.zipIdx.reverse) J Jx)
  (W:World) (hX1:¬ X Bs) (yD:¬ X rb) (Iv:W.cell? ⟨Bs,0,none⟩=some (.slice (some ⟨rb,off,none⟩) us.length cap)) (hc:∀ j (hj:j<us.length),W.cell? ⟨rb,off+j*4,none⟩=some (.int .i64 us[j].1.kind)/\W.cell? ⟨rb,off+j*4+1,none⟩=some (.int .i64 us[j].1.tx)/\W.cell? ⟨rb,off+j*4+2,none⟩=some (.int .i64 us[j].1.time)/\W.cell? ⟨rb,off+j*4+3,none⟩=some (us[j].2)) (h0:J [] W) :
  CallsIn Fence.wide n Tryz.prog 177 #[.func (.yield l) #[] #[],.pointer (some ⟨Bs,0,none⟩)] W fun e B=>(∃ v,e=.returned v)/\Mod X W B/\(J (us.zipIdx.reverse) B\/Jx B):=by
 refine callsIn_of_wp Tryz.func177 rfl trivial ?_ rfl;simp only [Tryz.ntmps177,bC,aW,az,Nat.reduceAdd,Nat.reduceSub,bb,ba,bp,bd,aY,bF]
 gi_wp2
 gi_loopw [3] (fun i wr=>∃ q:Nat,q<=us.length/\i=.int .i64 ((q:Int) - 1)/\J ((us.zipIdx.drop q).reverse) wr/\Mod X W wr) (fun i _=>(intOf i+1).toNat)
 case atStart=>exact ⟨us.length,aF _,rfl,by rw [dC (by simp)];exact h0,Mod.refl _ _⟩
 case round=>
  obtain ⟨q,hq,rfl,hJs,uP⟩:=hrel
  cases q with
  | zero=>
   gi_wp2
   go_end0;exact ⟨⟨_,rfl⟩,uP,.inl hJs⟩
  | succ q=>
   have DM:q<us.length:=by omega
   have hi:((q+1:Nat):Int) - 1=(q:Int):=by omega
   rw [hi];have hqI:(q:Int)<(us.length:Int):=by omega
   have hq0:(0:Int)<=(q:Int):=by omega
   have hqd:decide ((q:Int) ≥ 0)=true:=aQ (by omega);obtain ⟨c0,c1,c2,c3⟩:=hc q DM;have c0':=uP.cell c0 yD;have c1':=uP.cell c1 yD;have Sl:=uP.cell c2 yD;have c3':=uP.cell c3 yD;have hb':=uP.cell Iv hX1;obtain ⟨u,hu⟩:∃ u,u=us[q]:=⟨_,rfl⟩;obtain ⟨hx,hnx⟩:=yDr us q DM;rw [<-hu] at hx hnx;obtain ⟨fn,tmps,assign,body,hy,hR⟩:=hY _ _ _ wr hx hJs;rw [hnx] at hR;dsimp only [Dr] at hy;rw [<-hu] at c0' c1' Sl c3';clear hu hx hnx c0 c1 c2 c3
   gi_wp2
   refine ⟨fun e=>by simp [Fence.wide] at e,hR.mono ?_⟩;rintro e W3 ⟨dy,⟨rfl,hJ3⟩ | ⟨rfl,Is⟩⟩
   ·gi_wp2
    go_roundw
    case rel=>exact ⟨q,by omega,rfl,hJ3,uP.trans dy⟩
    case measure=>simp [intOf]
   ·gi_wp2
    refine bodyPost_ret (results_none rfl _ _ _) rfl ?_;exact ⟨⟨_,rfl⟩,uP.trans dy,.inr Is⟩
theorem yLm(n:Nat)(l Bs cap:Nat)(a:Option Addr)(J:World->Prop)(W:World)(Iv:W.cell? ⟨Bs,0,none⟩=some (.slice a 0 cap))(h0:J W) :
  CallsIn Fence.wide n Tryz.prog 177 #[.func (.yield l) #[] #[],.pointer (some ⟨Bs,0,none⟩)] W fun e B=>(∃ v,e=.returned v)/\B=W:=by
 refine callsIn_of_wp Tryz.func177 rfl trivial ?_ rfl;simp only [Tryz.ntmps177,bC,aW,az,Nat.reduceAdd,Nat.reduceSub,bb,ba,bp,bd,aY,bF]
 gi_wp2
 gi_loopw [3] (fun i wr=>i=.int .i64 (-1)/\wr=W) (fun _ _=>0)
 case atStart=>exact ⟨rfl,rfl⟩
 case round=>
  obtain ⟨rfl,rfl⟩:=hrel
  gi_wp2
  go_end0;exact ⟨⟨_,rfl⟩,rfl⟩
theorem yTw(l:Option Nat)(n:Nat)(a:Option Addr)(len cap:Nat)(w:World) :
  CallsIn Fence.wide n Tryz.prog 159 #[.slice a len cap] w fun e w'=>e=.returned (.func (.func 177) #[] #[.pointer (some ⟨w.heap.size,0,none⟩)])/\w'=w.alloc (.cells #[.slice a len cap] 62):=by
 refine callsIn_of_wp Tryz.func159 rfl trivial ?_ rfl;simp only [Tryz.ntmps159,bC,aW,az,Nat.reduceAdd,Nat.reduceSub,bb,ba,bp,bd,aY,bF]
 gi_wp2
 go_ret;exact ⟨rfl,rfl⟩
theorem yLk(n:Nat)(Bs:Nat)(v:Value)(us:List ((dv × Value)))(hlen:us.length<=1000000)(w:World)(hc:w.cell? ⟨Bs,0,none⟩=some v)(hs:fV w w.heap.size 4 Eg v us) :
  Iter n Tryz.prog 177 #[.pointer (some ⟨Bs,0,none⟩)] Dr (fun k=>k=Bs\/(us≠[]/\v.ownBlock=some k)) (us.zipIdx.reverse) w:=fun l X J Jx W hW hX _ _ hY h0=>by
 have hc':=hW.cell hc id;obtain ⟨a,cap,rfl,-,-,h4⟩:=hs.mod hW (fun _ _=>id) (fun _ _ e=>e);have h5:us=[]\/(us≠[]/\∃ b off,a=some ⟨b,off,none⟩/\∀ (i:Nat) d,us[i]?=some d->∃ cs,Eg d cs/\cs.length=4/\∀ (j:Nat) x,cs[j]?=some x->W.cell? ⟨b,off+i*4+j,none⟩=some x):=by
  by_cases hne:us=[]
  ·exact .inl hne
  ·exact .inr ⟨hne,h4.elim (fun e=>absurd e hne) (fun ⟨b,off,e1,_,e3⟩=>⟨b,off,e1,e3⟩)⟩
 rcases h5 with rfl | ⟨hne,b,off,rfl,hcs⟩
 ·refine (yLm n l Bs cap a (fun _=>True) W hc' trivial).mono ?_;rintro e B ⟨he,rfl⟩;exact ⟨he,Mod.refl _ _,.inl h0⟩
 ·refine yPz n l Bs b off cap X us hlen J Jx hY W (fun e=>(hX _ e).2 (.inl rfl)) (fun e=>(hX _ e).2 (.inr ⟨hne,rfl⟩)) hc' (fun j hj=>?_) h0;obtain ⟨cs,rfl,-,h⟩:=hcs j us[j] (aA hj);exact ⟨by simpa using h 0 _ rfl,by simpa using h 1 _ rfl,by simpa using h 2 _ rfl,by simpa using h 3 _ rfl⟩
end Go.Proofs.YtmaiggbnceejiaaGreatDoor
