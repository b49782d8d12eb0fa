import Derived.Test.YtmaiggbnceejiaaGreatDoorP18
import Derived.Sort.CutIn
set_option linter.unusedVariables false
set_option maxRecDepth 100000
set_option maxHeartbeats 16000000
namespace Go.Proofs.YtmaiggbnceejiaaGreatDoor
open Go.RowKit Go.Lib Go.Maps Go.Shelf
attribute [local go_sem] Oper.semAt_some
def DH(x:(dt × Value) × Nat):Array Value:=#[.int .i64 (x.2:Int),.agg #[.int .i64 x.1.1.kind,.int .i64 x.1.1.tx,.int .i64 x.1.1.time,x.1.2]]
theorem yOn(n:Nat)(l Bs rb off cap:Nat)(X:Nat->Prop)(us:List ((dt × Value)))(hlen:us.length<=1000000)(J:List ((dt × Value) × Nat)->World->Prop)(Jx:World->Prop)
  (hY:VE (n - 1) Tryz.prog l DH X (us.zipIdx.reverse) J Jx)
  (W:World) (hX1:¬ X Bs) (xS:¬ X rb) (Hi:W.cell? ⟨Bs,0,none⟩=some (.slice (some ⟨rb,off,none⟩) us.length cap)) (hc:∀ j (hj:j<us.length),W.cell? ⟨rb,off+j*4,none⟩=some (.int .i64 us[j].1.kind)/\W.cell? ⟨rb,off+j*4+1,none⟩=some (.int .i64 us[j].1.tx)/\W.cell? ⟨rb,off+j*4+2,none⟩=some (.int .i64 us[j].1.time)/\W.cell? ⟨rb,off+j*4+3,none⟩=some (us[j].2)) (h0:J [] W) :
  CallsIn Fence.wide n Tryz.prog 177 #[.func (.yield l) #[] #[],.pointer (some ⟨Bs,0,none⟩)] W fun e B=>(∃ v,e=.returned v)/\Mod X W B/\(J (us.zipIdx.reverse) B\/Jx B):=by
 refine callsIn_of_wp Tryz.func177 rfl trivial ?_ rfl;simp only [Tryz.ntmps177,au,aW,an,Nat.reduceAdd,Nat.reduceSub,bY,bX,bp,bc,ak,bU]
 gi_wp2
 gi_loopw [3] (fun i wr=>∃ q:Nat,q<=us.length/\i=.int .i64 ((q:Int) - 1)/\J ((us.zipIdx.drop q).reverse) wr/\Mod X W wr) (fun i _=>(intOf i+1).toNat)
 case atStart=>exact ⟨us.length,aF _,rfl,by rw [cq (by simp)];exact h0,Mod.refl _ _⟩
 case round=>
  obtain ⟨q,hq,rfl,hJs,uC⟩:=hrel
  cases q with
  | zero=>
   gi_wp2
   go_end0;exact ⟨⟨_,rfl⟩,uC,.inl hJs⟩
  | succ q=>
   have Cb:q<us.length:=by omega
   have hi:((q+1:Nat):Int) - 1=(q:Int):=by omega
   rw [hi];have hqI:(q:Int)<(us.length:Int):=by omega
   have hq0:(0:Int)<=(q:Int):=by omega
   have hqd:decide ((q:Int) ≥ 0)=true:=aQ (by omega);obtain ⟨c0,c1,c2,c3⟩:=hc q Cb;have c0':=uC.cell c0 xS;have c1':=uC.cell c1 xS;have ZA:=uC.cell c2 xS;have c3':=uC.cell c3 xS;have hb':=uC.cell Hi hX1;obtain ⟨u,hu⟩:∃ u,u=us[q]:=⟨_,rfl⟩;obtain ⟨hx,hnx⟩:=yDf us q Cb;rw [<-hu] at hx hnx;obtain ⟨fn,tmps,assign,body,hy,hR⟩:=hY _ _ _ wr hx hJs;rw [hnx] at hR;dsimp only [DH] at hy;rw [<-hu] at c0' c1' ZA c3';clear hu hx hnx c0 c1 c2 c3
   gi_wp2
   refine ⟨fun e=>by simp [Fence.wide] at e,hR.mono ?_⟩;rintro e W3 ⟨dz,⟨rfl,hJ3⟩ | ⟨rfl,Hf⟩⟩
   ·gi_wp2
    go_roundw
    case rel=>exact ⟨q,by omega,rfl,hJ3,uC.trans dz⟩
    case measure=>simp [intOf]
   ·gi_wp2
    refine bodyPost_ret (results_none rfl _ _ _) rfl ?_;exact ⟨⟨_,rfl⟩,uC.trans dz,.inr Hf⟩
theorem yKh(n:Nat)(l Bs cap:Nat)(a:Option Addr)(J:World->Prop)(W:World)(Hi:W.cell? ⟨Bs,0,none⟩=some (.slice a 0 cap))(h0:J W) :
  CallsIn Fence.wide n Tryz.prog 177 #[.func (.yield l) #[] #[],.pointer (some ⟨Bs,0,none⟩)] W fun e B=>(∃ v,e=.returned v)/\B=W:=by
 refine callsIn_of_wp Tryz.func177 rfl trivial ?_ rfl;simp only [Tryz.ntmps177,au,aW,an,Nat.reduceAdd,Nat.reduceSub,bY,bX,bp,bc,ak,bU]
 gi_wp2
 gi_loopw [3] (fun i wr=>i=.int .i64 (-1)/\wr=W) (fun _ _=>0)
 case atStart=>exact ⟨rfl,rfl⟩
 case round=>
  obtain ⟨rfl,rfl⟩:=hrel
  gi_wp2
  go_end0;exact ⟨⟨_,rfl⟩,rfl⟩
theorem ySe(l:Option Nat)(n:Nat)(a:Option Addr)(len cap:Nat)(w:World) :
  CallsIn Fence.wide n Tryz.prog 159 #[.slice a len cap] w fun e w'=>e=.returned (.func (.func 177) #[] #[.pointer (some ⟨w.heap.size,0,none⟩)])/\w'=w.alloc (.cells #[.slice a len cap] 62):=by
 refine callsIn_of_wp Tryz.func159 rfl trivial ?_ rfl;simp only [Tryz.ntmps159,au,aW,an,Nat.reduceAdd,Nat.reduceSub,bY,bX,bp,bc,ak,bU]
 gi_wp2
 go_ret;exact ⟨rfl,rfl⟩
theorem yKf(n:Nat)(Bs:Nat)(v:Value)(us:List ((dt × Value)))(hlen:us.length<=1000000)(w:World)(hc:w.cell? ⟨Bs,0,none⟩=some v)(hs:gG w w.heap.size 4 Dq v us) :
  Iter n Tryz.prog 177 #[.pointer (some ⟨Bs,0,none⟩)] DH (fun k=>k=Bs\/(us≠[]/\v.ownBlock=some k)) (us.zipIdx.reverse) w:=fun l X J Jx W hW hX _ _ hY h0=>by
 have hc':=hW.cell hc id;obtain ⟨a,cap,rfl,-,-,h4⟩:=hs.mod hW (fun _ _=>id) (fun _ _ e=>e);have h5:us=[]\/(us≠[]/\∃ b off,a=some ⟨b,off,none⟩/\∀ (i:Nat) d,us[i]?=some d->∃ cs,Dq d cs/\cs.length=4/\∀ (j:Nat) x,cs[j]?=some x->W.cell? ⟨b,off+i*4+j,none⟩=some x):=by
  by_cases hne:us=[]
  ·exact .inl hne
  ·exact .inr ⟨hne,h4.elim (fun e=>absurd e hne) (fun ⟨b,off,e1,_,e3⟩=>⟨b,off,e1,e3⟩)⟩
 rcases h5 with rfl | ⟨hne,b,off,rfl,hcs⟩
 ·refine (yKh n l Bs cap a (fun _=>True) W hc' trivial).mono ?_;rintro e B ⟨he,rfl⟩;exact ⟨he,Mod.refl _ _,.inl h0⟩
 ·refine yOn n l Bs b off cap X us hlen J Jx hY W (fun e=>(hX _ e).2 (.inl rfl)) (fun e=>(hX _ e).2 (.inr ⟨hne,rfl⟩)) hc' (fun j hj=>?_) h0;obtain ⟨cs,rfl,-,h⟩:=hcs j us[j] (aA hj);exact ⟨by simpa using h 0 _ rfl,by simpa using h 1 _ rfl,by simpa using h 2 _ rfl,by simpa using h 3 _ rfl⟩
attribute [local go_sem] Oper.semAt_some
theorem UP{m m' l':Nat}{P:Program}{l:Nat}{f:FuncId}{tmps:Array Value}{assign body:Code}{w:World}{R:Ending->World->Prop}(h:RoundIn Fence.wide m P l f tmps assign body w R):RoundIn (Fence.wide.inRound l') m' P l f tmps assign body w R:=
 ⟨h.1,fun c cs _=>h.2 c cs (fun d e=>nomatch e)⟩
theorem xl.mono{β:Type}{N N':Nat}{J:β->World->Prop}(h:xl N J)(hN:N<=N'):xl N' J:=fun s A B hm hs hj=>h s A B (hm.mono (fun i _ hi=>aM hN hi)) (aM hN hs) hj
def rr(w:World)(N:Nat)(v:Value)(cs:List dt)(us:List Value):Prop:=
 us.length=cs.length/\gG w N 4 Dq v (cs.zip us)/\∀ (i:Nat) c u,cs[i]?=some c->us[i]?=some u->gG w N 3 Bi u c.writes
theorem rr.mod{w w':World}{N:Nat}{v:Value}{cs:List dt}{us:List Value}{G:Nat->Prop}(h:rr w N v cs us)(hm:Mod G w w')(hG:∀ k,k<N->¬ G k):rr w' N v cs us:=
 ⟨h.1,h.2.1.mod hm hG (fun _ _ e=>e),fun i c u hi hu=>(h.2.2 i c u hi hu).mod hm hG (fun _ _ e=>e)⟩
theorem gG.wide{α:Type}{w:World}{L sz:Nat}{R:α->List Value->Prop}{v:Value}{ds:List α}(h:gG w L sz R v ds)(hL:L<=w.heap.size):gG w w.heap.size sz R v ds:=by
 obtain ⟨a,cap,h1,h2,h3,h4⟩:=h;exact ⟨a,cap,h1,h2,h3,h4.imp id (fun ⟨b,off,e1,e2,e3⟩=>⟨b,off,e1,by omega,e3⟩)⟩
theorem gG.blk{α:Type}{w:World}{L sz:Nat}{R:α->List Value->Prop}{v:Value}{ds:List α}(h:gG w L sz R v ds)(hne:ds≠[]){k:Nat}(hk:v.ownBlock=some k):k<L:=by
 obtain ⟨a,cap,rfl,h2,h3,h4⟩:=h;rcases h4 with h4 | ⟨b,off,rfl,hb,_⟩
 ·exact absurd h4 hne
 ·cases hk;exact hb
theorem rr.Yw{w:World}{N:Nat}{v:Value}{cs:List dt}{us:List Value}(h:rr w N v cs us)(hL:N<=w.heap.size):tX w v cs:=
 ⟨us,⟨h.1,fun u hu=>by
  obtain ⟨i,hi⟩:=aN hu;have hil:i<cs.length:=by have:=(aB.1 hi).1;have:=h.1;omega
  obtain ⟨a,cap,e,_⟩:=h.2.2 i _ u (aA hil) hi;exact ⟨_,_,_,e⟩⟩,h.2.1.wide hL⟩
def nG(log:List dt)(c:dt):List fR:=if c.kind=3 then ((log.getD ((kq log 2 c.tx).getD 0) rT).writes).reverse else []
theorem yQc(log:List dt):pI log=log.reverse.flatMap (nG log):=by
 unfold pI;generalize log.reverse=l
 induction l with
 | nil=>rfl
 | cons c l ih=>
  by_cases h:c.kind=3
  ·rw [List.filter_cons_of_pos (by simpa using h),bD,bD,ih];simp [nG,h]
  ·rw [List.filter_cons_of_neg (by simpa using h),bD,ih];simp [nG,h]
theorem yGe(cs:List dt)(us:List Value)(h:us.length=cs.length):((cs.zip us).zipIdx.reverse).flatMap (fun (x:(dt × Value) × Nat)=>nG cs x.1.1)=pI cs:=by
 rw [yQc];have e:((cs.zip us).zipIdx.reverse).map (fun (x:(dt × Value) × Nat)=>x.1.1)=cs.reverse:=by
  rw [cz];congr 1;have:(cs.zip us).zipIdx.map (fun (x:(dt × Value) × Nat)=>x.1.1)=((cs.zip us).zipIdx.map Prod.fst).map Prod.fst:=by rw [dN];rfl
  rw [this,dD,List.map_fst_zip (by omega)]
 rw [<-e,List.flatMap_map]
def vD(p:fR):Array Value:=#[.agg #[.string p.key,.string p.val,.bool p.gone]]
theorem zVc(n:Nat)(hn:10<=n)(Bs N:Nat)(v:Value)(cs:List dt)(us:List Value)(hlen:cs.length<=1000)(hpl:∀ c∈cs,c.kind=3->∃ i d,kq cs 2 c.tx=some i/\cs[i]?=some d/\d.writes.length<=1000)(w:World)(hc:w.cell? ⟨Bs,0,none⟩=some v)(hv:rr w N v cs us)(hN:N<=w.heap.size) :
  Iter n Tryz.prog 158 #[.pointer (some ⟨Bs,0,none⟩)] vD (fun k=>k<N\/k=Bs) (pI cs) w:=fun l X J Jx W hW hX hJ Ek hY h0=>by
 have n1:1<=n:=by omega
 have n2:1<=n - 1 - 1:=by omega
 have n3:1<=n - 1 - 1 - 1 - 1:=by omega
 have hc':=hW.cell hc id;have hv':=hv.mod hW (fun _ _=>id);have hN':N<=W.heap.size:=aM hN hW.size;obtain ⟨va,vc,lI,_,_⟩:=hv'.2.1.slice;have zW:(cs.zip us).length=cs.length:=by rw [bz,hv.1];omega
 rw [zW] at lI;subst lI;obtain ⟨w1,hw1⟩:∃ z,z=W.alloc (.cells #[.func (.yield l) #[] #[]] 178):=⟨_,rfl⟩;have di:Mod dZ W w1:=by rw [hw1];exact (Mod.refl _ W).alloc _
 have hz1:w1.heap.size=W.heap.size+1:=by rw [hw1,World.size_alloc]
 have hb1:dh w1 W.heap.size [.func (.yield l) #[] #[]] 178:=by rw [hw1];exact dh.new W _ _
 have c1:(W.alloc (.cells #[.func (.yield l) #[] #[]] 178)).cell? ⟨Bs,0,none⟩=some (.slice va cs.length vc):=by rw [<-hw1];exact di.cell hc' id
 refine callsIn_of_wp_marks Tryz.func158 rfl trivial ?_ rfl;simp only [Tryz.ntmps158,au,aW,an,Nat.reduceAdd,Nat.reduceSub,bY,bX,bp,bc,ak,bU];gi_wp2_with (refine ⟨trivial,?_⟩;gi_at_call 159;refine (ySe none (n - 1) _ _ _ _).mono ?_;rintro e w' ⟨rfl,rfl⟩);rw [<-hw1] at c1 ⊢;obtain ⟨w2,hw2⟩:∃ z,z=w1.alloc (.cells #[.slice va cs.length vc] 62):=⟨_,rfl⟩;have xJ:Mod dZ w1 w2:=by rw [hw2];exact (Mod.refl _ w1).alloc _
 have hm2:Mod dZ W w2:=di.trans xJ;have hz2:w2.heap.size=W.heap.size+2:=by rw [hw2,World.size_alloc,hz1]
 have hb2:dh w2 (W.heap.size+1) [.slice va cs.length vc] 62:=by rw [<-hz1,hw2];exact dh.new w1 _ _
 have SV:=(hb1.mod xJ id).cell 0 rfl;have c2:=xJ.cell c1 id;rw [<-hw2];have hv2:=hv'.mod hm2 (fun _ _=>id);have xS:∀ k,X k->k<w2.heap.size/\¬(k=W.heap.size+1\/(cs.zip us≠[]/\(Value.slice va cs.length vc).ownBlock=some k)):=fun k hk=>by
  have:=hX k hk;refine ⟨by omega,fun e=>?_⟩;rcases e with e | ⟨e1,e2⟩
  ·omega
  ·exact this.2 (.inl (hv2.2.1.blk e1 e2))
 have WQ:w2.heap.size<=W.heap.size+2:=by omega
 have WO:W.heap.size+2<=w2.heap.size:=by omega
 clear hw1 hw2 hz1 hz2;have hU:∀ {N0:Nat} {w0:World},w0.heap.size<=N0->xl N0 (fun (_:Unit) Wc=>Mod X w0 Wc):=fun hz _ A B hm _ hj=>hj.since hm hz;refine QU (gf:=177) (lb:=#[.pointer (some ⟨W.heap.size+1,0,none⟩)]) rfl (enters_of Tryz.func177 (by kernel_rfl) rfl)
  (yKf (n - 1) (W.heap.size+1) (.slice va cs.length vc) (cs.zip us) (by omega) w2 (hb2.cell 0 rfl) (hv2.2.1.wide (by omega))) (fun _=>rfl) X xS
  (fun k e=>by
   rcases e with e | ⟨e1,e2⟩
   ·omega
   ·have:=hv2.2.1.blk e1 e2;omega)
  (fun pre Wc=>J (pre.flatMap fun (x:(dt × Value) × Nat)=>nG cs x.1.1) Wc/\Mod X w2 Wc) (fun c Wc=>c=.ret/\Jx Wc)
  (fun s A B hm hs hj=>⟨(hJ.mono (by omega)) _ A B hm hs hj.1,hj.2.since hm (aF _)⟩) (fun s A B hm hs hj=>⟨hj.1,(Ek.mono (by omega)) () A B hm hs hj.2⟩)
  ⟨(hJ.mono (N':=W.heap.size) (aF _)) [] W w2 (hm2.mono (fun _ _ e=>e.elim)) (aF _) h0,Mod.refl _ _⟩ ?round ?done ?stop
 case round=>
  rintro pre x rest Wr hx ⟨hJr,qj⟩ hsz;obtain ⟨⟨cm,u⟩,j⟩:=x;obtain ⟨i,hi1,hi2⟩:∃ i:Nat,cs[i]?=some cm/\us[i]?=some u:=by
   have hmem:((cm,u),j)∈(cs.zip us).zipIdx.reverse:=by rw [hx];simp
   rw [List.mem_reverse] at hmem;have:=List.fst_mem_of_mem_zipIdx hmem;obtain ⟨i,hi⟩:=aN this;exact ⟨i,QG hi⟩
  obtain ⟨ua,uc,hu,-,-⟩:=(hv2.2.2 i cm u hi1 hi2).slice;subst hu;obtain ⟨kind,tx,time,ws⟩:=cm;have hcm:=aC hi1;have HX:Hid (∃ tail,pI cs=pre.flatMap (fun (x:(dt × Value) × Nat)=>nG cs x.1.1)++(nG cs ⟨kind,tx,time,ws⟩++tail)):=by
   refine ⟨rest.flatMap (fun (x:(dt × Value) × Nat)=>nG cs x.1.1),?_⟩;rw [<-yGe cs us hv.1,hx,dE,bD]
  clear hx hi1 hi2;dsimp only [DH]
  gi_wp2
  refine ⟨(Mod.refl _ Wr).alloc _,?_⟩;rintro Wb hmb ⟨r,hr⟩ ⟨Yb,xU⟩;have zR:Wr.heap.size≠w2.heap.size+1:=by omega
  obtain ⟨Bx,Rt⟩:∃ z,z=Wr.heap.size:=⟨_,rfl⟩;have hbx:dh Wb Bx [.int .i64 kind,.int .i64 tx,.int .i64 time,.slice ua ws.length uc] 65:=by rw [Rt];exact (dh.new Wr _ _).mod hmb zR
  rw [<-Rt];replace zR:Bx≠w2.heap.size+1:=by rw [Rt];exact zR
  have hBx1:w2.heap.size+1<Bx:=by omega
  clear Rt hmb;have x0:=hbx.cell 0 rfl;have x1:=hbx.cell 1 rfl;by_cases hk:kind=3
  ·subst hk;obtain ⟨i,d,hp,hd,pw⟩:=hpl _ hcm rfl;have YI:¬ X Bs:=fun e=>(hX _ e).2 (.inr rfl);have YH:∀ k,k<N->¬ X k:=fun k hk e=>(hX _ e).2 (.inl hk);have cb:=xU.cell c2 YI;have hvb:=hv2.mod xU YH;have hNb:N<=Wb.heap.size:=by have:=xU.size;omega
   have hil:i<cs.length:=(aB.1 hd).1;obtain ⟨u2,hu2⟩:∃ z,us[i]?=some z:=⟨_,aA (by rw [hv.1];exact hil)⟩;have Jo:(cs.zip us)[i]?=some (d,u2):=by rw [List.getElem?_zip_eq_some];exact ⟨hd,hu2⟩
   obtain ⟨lb,lo,ls,EX,hlb,hls,-,hcl⟩:=hvb.2.1.at Jo;obtain ⟨da,dc,hud,-,-⟩:=(hvb.2.2 i d u2 hd hu2).slice;subst hud EX;unfold Dq at hls;subst hls;have cu:=hcl 3 _ rfl;have Nj:iO (kq cs 2 tx)=(i:Int):=by rw [hp];rfl
   have lX:Hid (∀ wx,Mod dZ Wb wx->CallsIn (Fence.wide.inRound (w2.heap.size+1)) (n - 1 - 1 - 1) Tryz.prog 80 #[.slice (some ⟨lb,lo,none⟩) cs.length vc,.int .i64 2,.int .i64 tx] wx fun e w'=>e=.returned (.int .i64 (i:Int))/\Mod dZ wx w'):=fun wx hmx=>
    CallsIn.inRound (w2.heap.size+1) (callsIn_wide.2 (by have:=UC _ cs 2 tx wx ((hvb.mod hmx (fun _ _=>id)).Yw (aM hNb hmx.size)) hlen;rw [Nj] at this;exact this))
   have HO:Hid (nG cs ⟨3,tx,time,ws⟩=d.writes.reverse):=by
    unfold Hid nG;rw [aJ rfl];simp only [hp,dK];rw [aH,hd];rfl
   clear Nj hp;have wB:(i:Int)<(cs.length:Int):=by omega
   have hi0:(0:Int)<=(i:Int):=by omega
   have HV:=dU (hvb.2.2 i d _ hd hu2);have byb:=xU.cell SV (fun e=>absurd (hX _ e).1 (cS _))
   gi_wp2
   gi_cut [22] from 29 (fun t wc=>∃ Bp,t=.func (.func 157) #[] #[.pointer (some ⟨Bp,0,none⟩)]/\Mod dZ Wb wc/\wc.cell? ⟨Bp,0,none⟩=some (.slice da d.writes.length dc)/\Wb.heap.size<=Bp)
   case first=>
    have HM:=dU xU;clear hd hu2 Jo hcl hvb hv2 hv' hv Yb xU hJr qj hU xS hX hY
    gi_region_with (first
     | (refine ⟨trivial,?_⟩;gi_at_call 80;refine (lX.out _ ((Mod.refl dZ Wb).drew)).mono ?_;rintro e w' ⟨rfl,hm'⟩;have cb':=hm'.cell cb id;have cu':=hm'.cell cu id)
     | (refine ⟨trivial,?_⟩;gi_at_call 117;refine (CallsIn.inRound (w2.heap.size+1) (yHp none _ _ _ _ _)).mono ?_;rintro e w'' ⟨rfl,rfl⟩))
    all_goals
     gi_wp2
     gi_meet
     case rel=>exact ⟨_,rfl,(((Mod.refl dZ Wb).drew).trans hm').alloc _,by simp,hm'.size⟩
   case rest=>
    obtain ⟨Bp,rfl,mu,cp,hBp⟩:=hcut
    gi_wp2
    have YK:=HV.out.mod mu (fun _ _=>id) (fun _ _ e=>e);have hMc:Mod X w2 wc:=xU.trans' mu (fun _ _ e=>e.elim);have zc:=mu.size;have hrc:wc.heap[w2.heap.size+1]?=some (.loop r):=(mu.block _ (aK.1 hr).1 id).trans hr;have hJc:J (pre.flatMap fun (x:(dt × Value) × Nat)=>nG cs x.1.1) wc:=hJ _ Wb wc (mu.mono (fun _ _ e=>e.elim)) (by have:=xU.size;omega) Yb;have byc:=mu.cell byb id;obtain ⟨tail,zK⟩:=HX.out;rw [HO.out] at zK;have hBl:=World.block_lt_of_cell? wc _ cp;dsimp only at hBl;have hXd:∀ k,X k->k<wc.heap.size/\¬(k=Bp\/(d.writes≠[]/\(Value.slice da d.writes.length dc).ownBlock=some k)):=fun k hk=>by
     have h1:=hX k hk;have h2:=xU.size;refine ⟨by omega,fun e=>?_⟩;rcases e with e | ⟨e1,e2⟩
     ·omega
     ·exact h1.2 (.inl (YK.blk e1 e2))
    refine yPv (l₀:=w2.heap.size+1) (r₀:=r) hrc (gf:=157) (lb:=#[.pointer (some ⟨Bp,0,none⟩)]) rfl (enters_of Tryz.func157 (by kernel_rfl) rfl)
     (zXv (n - 1 - 1 - 1) Bp (.slice da d.writes.length dc) d.writes (by omega) wc cp (YK.wide (by omega))) (fun _=>rfl) X hXd
     (fun k e=>by
      rcases e with e | ⟨e1,e2⟩
      ·omega
      ·have:=YK.blk e1 e2;omega)
     (fun CO Wc=>J ((pre.flatMap fun (x:(dt × Value) × Nat)=>nG cs x.1.1)++CO.map Prod.fst) Wc/\Mod X wc Wc) (fun c Wc=>c=.ret/\Jx Wc)
     (fun s A B hm hs hj=>⟨(hJ.mono (by have:=xU.size;omega)) _ A B hm hs hj.1,hj.2.since hm (aF _)⟩) (fun s A B hm hs hj=>⟨hj.1,(Ek.mono (by have:=xU.size;omega)) () A B hm hs hj.2⟩)
     ⟨by simpa using hJc,Mod.refl _ _⟩ ?round2 ?done2 ?stop2
    case round2=>
     rintro CO ⟨p,j2⟩ EF Wq hx2 ⟨hJq,hMq⟩ Mr;have sm:pI cs=((pre.flatMap fun (x:(dt × Value) × Nat)=>nG cs x.1.1)++CO.map Prod.fst)++p :: (EF.map Prod.fst++tail):=by
      have e:d.writes.reverse=CO.map Prod.fst++p :: EF.map Prod.fst:=by
       have:=ae (List.map Prod.fst) hx2;rw [cz,dD] at this;rw [this];simp
      rw [zK,e];simp
     obtain ⟨key,val,gone⟩:=p;dsimp only [AG]
     gi_wp2
     refine ⟨(Mod.refl _ Wq).alloc _,?_⟩;rintro We hme ⟨r2,hr2⟩ ⟨OQ,Eg⟩;obtain ⟨fn,tmps,assign,body,hy,hR⟩:=hY _ _ _ We sm OQ;dsimp only [vD] at hy;have rm:dh We Wq.heap.size [.string key,.string val,.bool gone] 68:=(dh.new Wq _ _).mod hme (by simp only [eF];omega);obtain ⟨Bq,yL⟩:∃ z,z=Wq.heap.size:=⟨_,rfl⟩;rw [<-yL] at rm ⊢;have p0:=rm.cell 0 rfl;have p1:=rm.cell 1 rfl;have p2:=rm.cell 2 rfl;have bye:=Eg.cell byc (fun e=>absurd (hX _ e).1 (cS _));clear sm hx2 hme yL zK
     gi_wp2
     refine (UP hR).mono ?_;rintro e W5 ⟨eu,⟨rfl,ux⟩ | ⟨rfl,ux⟩⟩
     ·gi_wp2
      refine ⟨eu,?_,Eg.trans eu⟩;rw [ao,<-aU];exact ux
     ·gi_wp2
      exact ⟨eu,rfl,ux⟩
    case done2=>
     rintro W4 gM ⟨Rq,-⟩
     gi_wp2
     have eu:Mod X Wb W4:=(mu.mono (fun _ _ e=>e.elim)).trans gM;refine ⟨eu,?_,xU.trans eu⟩;rw [dE,List.flatMap_singleton];dsimp only;rw [HO.out];rw [cz,dD] at Rq;exact Rq
    case stop2=>
     rintro c W4 gM ⟨rfl,Rq⟩
     gi_wp2
     exact ⟨(mu.mono (fun _ _ e=>e.elim)).trans gM,rfl,Rq⟩
  ·have hkb:(kind == 3)=false:=by simpa using hk
   gi_wp2
   refine ⟨Mod.refl _ _,?_,xU⟩;rw [dE];simpa [nG,hk] using Yb
 case done=>
  rintro W3 dz hK3 ⟨KF,-⟩
  gi_wp2
  refine ⟨by simp,.inl ⟨_,_,rfl,run_takeDeferred hK3,?_⟩⟩;have qQ:Mod (jU W.heap.size) W3 (W3.putObj w2.heap.size (.deferred none)):=(Mod.refl _ _).putObj (fun _=>by simp only [jU];omega) _;have hs3:W.heap.size<=W3.heap.size:=aM hm2.size dz.size;rw [yGe cs us hv.1] at KF;exact ⟨_,results_none rfl _ _ _,⟨_,rfl⟩,((hm2.mono (fun _ _ e=>e.elim)).trans dz).since qQ (aF _),.inl (hJ _ _ _ qQ hs3 KF)⟩
 case stop=>
  rintro c W3 dz hK3 ⟨rfl,KF⟩
  gi_wp2
  refine ⟨by simp,.inl ⟨_,_,rfl,run_takeDeferred hK3,?_⟩⟩;have qQ:Mod (jU W.heap.size) W3 (W3.putObj w2.heap.size (.deferred none)):=(Mod.refl _ _).putObj (fun _=>by simp only [jU];omega) _;have hs3:W.heap.size<=W3.heap.size:=aM hm2.size dz.size;exact ⟨_,results_none rfl _ _ _,⟨_,rfl⟩,((hm2.mono (fun _ _ e=>e.elim)).trans dz).since qQ (aF _),.inr (Ek () _ _ qQ hs3 KF)⟩
attribute [local go_sem] Oper.semAt_some
theorem yDe(n:Nat)(a:Option Addr)(len cap:Nat)(w:World) :
  CallsIn Fence.wide n Tryz.prog 118 #[.slice a len cap] w fun e w'=>e=.returned (.func (.func 158) #[] #[.pointer (some ⟨w.heap.size,0,none⟩)])/\w'=w.alloc (.cells #[.slice a len cap] 62):=by
 refine callsIn_of_wp Tryz.func118 rfl trivial ?_ rfl;simp only [Tryz.ntmps118,au,aW,an,Nat.reduceAdd,Nat.reduceSub,bY,bX,bp,bc,ak,bU]
 gi_wp2
 go_ret;exact ⟨rfl,rfl⟩
theorem yTb(n:Nat)(b:Nat)(a:Option Addr)(len cap:Nat)(w:World) :
  CallsIn Fence.wide n Tryz.prog 71 #[.pointer (some ⟨b,0,none⟩),.slice a len cap] w fun e w'=>e=.returned (.func (.func 116) #[] #[.pointer (some ⟨w.heap.size,0,none⟩),.pointer (some ⟨w.heap.size+1,0,none⟩)])/\w'=(w.alloc (.cells #[.pointer (some ⟨b,0,none⟩)] 87)).alloc (.cells #[.slice a len cap] 62):=by
 refine callsIn_of_wp Tryz.func71 rfl trivial ?_ rfl;simp only [Tryz.ntmps71,au,aW,an,Nat.reduceAdd,Nat.reduceSub,bY,bX,bp,bc,ak,bU]
 gi_wp2
 go_ret;exact ⟨rfl,rfl⟩
theorem yIn(n:Nat)(hn:20<=n)(Bt Bs N b:Nat)(v tv:Value)(ws:List fR)(cs:List dt)(us:List Value)(pL:ws.length<=1000)(hlen:cs.length<=1000)(hpl:∀ c∈cs,c.kind=3->∃ i d,kq cs 2 c.tx=some i/\cs[i]?=some d/\d.writes.length<=1000)(w:World)
  (ht:w.cell? ⟨Bt,0,none⟩=some (.pointer (some ⟨b,0,none⟩))) (hb:w.cell? ⟨b,2,none⟩=some tv) (hbN:b<N) (pM:gG w N 3 Bi tv ws) (hc:w.cell? ⟨Bs,0,none⟩=some v) (hv:rr w N v cs us) (hN:N<=w.heap.size) :
  Iter n Tryz.prog 116 #[.pointer (some ⟨Bt,0,none⟩),.pointer (some ⟨Bs,0,none⟩)] vD (fun k=>k<N\/k=Bs\/k=Bt) (ws.reverse++pI cs) w:=fun l X J Jx W hW hX hJ Ek hY h0=>by
 have n1:1<=n:=by omega
 have n2:1<=n - 1 - 1:=by omega
 have n3:1<=n - 1 - 1 - 1 - 1:=by omega
 have hc':=hW.cell hc id;have ht':=hW.cell ht id;have hb':=hW.cell hb id;have zG:=pM.mod hW (fun _ _=>id) (fun _ _ e=>e);have hv':=hv.mod hW (fun _ _=>id);have hN':N<=W.heap.size:=aM hN hW.size;have zW:(cs.zip us).length=cs.length:=by rw [bz,hv.1];omega
 obtain ⟨va,vc,lI,-,-⟩:=hv'.2.1.slice;rw [zW] at lI;obtain ⟨ta,tc,BF,-,-⟩:=zG.slice;subst lI BF;clear zW;obtain ⟨w1,hw1⟩:∃ z,z=W.alloc (.cells #[.func (.yield l) #[] #[]] 178):=⟨_,rfl⟩;have di:Mod dZ W w1:=by rw [hw1];exact (Mod.refl _ W).alloc _
 have hz1:w1.heap.size=W.heap.size+1:=by rw [hw1,World.size_alloc]
 have hb1:dh w1 W.heap.size [.func (.yield l) #[] #[]] 178:=by rw [hw1];exact dh.new W _ _
 have c1:(W.alloc (.cells #[.func (.yield l) #[] #[]] 178)).cell? ⟨Bt,0,none⟩=some (.pointer (some ⟨b,0,none⟩)):=by rw [<-hw1];exact di.cell ht' id
 have c2:(W.alloc (.cells #[.func (.yield l) #[] #[]] 178)).cell? ⟨b,2,none⟩=some (.slice ta ws.length tc):=by rw [<-hw1];exact di.cell hb' id
 have c2z:=World.block_lt_of_cell? _ _ c2;refine callsIn_of_wp_marks Tryz.func116 rfl trivial ?_ rfl;simp only [Tryz.ntmps116,au,aW,an,Nat.reduceAdd,Nat.reduceSub,bY,bX,bp,bc,ak,bU];gi_wp2_with (refine ⟨trivial,?_⟩;gi_at_call 117;refine (yHp none (n - 1) _ _ _ _).mono ?_;rintro e w' ⟨rfl,rfl⟩);rw [<-hw1];obtain ⟨w2,hw2⟩:∃ z,z=w1.alloc (.cells #[.slice ta ws.length tc] 63):=⟨_,rfl⟩;have xJ:Mod dZ w1 w2:=by rw [hw2];exact (Mod.refl _ w1).alloc _
 have hm2:Mod dZ W w2:=di.trans xJ;have hz2:w2.heap.size=W.heap.size+2:=by rw [hw2,World.size_alloc,hz1]
 have hb2:dh w2 (W.heap.size+1) [.slice ta ws.length tc] 63:=by rw [<-hz1,hw2];exact dh.new w1 _ _
 have SV:=(hb1.mod xJ id).cell 0 rfl;have cs2:=hm2.cell hc' id;rw [<-hw2];have hv2:=hv'.mod hm2 (fun _ _=>id);have GS:=zG.mod hm2 (fun _ _=>id) (fun _ _ e=>e);have YH:∀ k,k<N->¬ X k:=fun k hk e=>(hX _ e).2 (.inl hk);have YI:¬ X Bs:=fun e=>(hX _ e).2 (.inr (.inl rfl));have xS:∀ k,X k->k<w2.heap.size/\¬(k=W.heap.size+1\/(ws≠[]/\(Value.slice ta ws.length tc).ownBlock=some k)):=fun k hk=>by
  have:=hX k hk;refine ⟨by omega,fun e=>?_⟩;rcases e with e | ⟨e1,e2⟩
  ·omega
  ·exact this.2 (.inl (GS.blk e1 e2))
 have WQ:w2.heap.size<=W.heap.size+2:=by omega
 have WO:W.heap.size+2<=w2.heap.size:=by omega
 clear hw1 hw2 hz1 hz2 c1 c2 c2z;refine QU (gf:=157) (lb:=#[.pointer (some ⟨W.heap.size+1,0,none⟩)]) rfl (enters_of Tryz.func157 (by kernel_rfl) rfl)
  (zXv (n - 1) (W.heap.size+1) (.slice ta ws.length tc) ws (by omega) w2 (hb2.cell 0 rfl) (GS.wide (by omega))) (fun _=>rfl) X xS
  (fun k e=>by
   rcases e with e | ⟨e1,e2⟩
   ·omega
   ·have:=GS.blk e1 e2;omega)
  (fun pre Wc=>J (pre.map Prod.fst) Wc/\Mod X w2 Wc) (fun c Wc=>c=.ret/\Jx Wc)
  (fun s A B hm hs hj=>⟨(hJ.mono (by omega)) _ A B hm hs hj.1,hj.2.since hm (aF _)⟩) (fun s A B hm hs hj=>⟨hj.1,(Ek.mono (by omega)) () A B hm hs hj.2⟩)
  ⟨(hJ.mono (N':=W.heap.size) (aF _)) [] W w2 (hm2.mono (fun _ _ e=>e.elim)) (aF _) h0,Mod.refl _ _⟩ ?round ?done ?stop
 case round=>
  rintro pre ⟨p,j⟩ rest Wq hx ⟨hJq,hMq⟩ hsz;have sm:ws.reverse++pI cs=pre.map Prod.fst++p :: (rest.map Prod.fst++pI cs):=by
   have e:ws.reverse=pre.map Prod.fst++p :: rest.map Prod.fst:=by
    have:=ae (List.map Prod.fst) hx;rw [cz,dD] at this;rw [this];simp
   rw [e];simp
  obtain ⟨key,val,gone⟩:=p;dsimp only [AG]
  gi_wp2
  refine ⟨(Mod.refl _ Wq).alloc _,?_⟩;rintro We hme ⟨r2,hr2⟩ ⟨OQ,Eg⟩;obtain ⟨fn,tmps,assign,body,hy,hR⟩:=hY _ _ _ We sm OQ;dsimp only [vD] at hy;have rm:dh We Wq.heap.size [.string key,.string val,.bool gone] 68:=(dh.new Wq _ _).mod hme (by simp only [eF];omega);obtain ⟨Bq,yL⟩:∃ z,z=Wq.heap.size:=⟨_,rfl⟩;rw [<-yL] at rm ⊢;have p0:=rm.cell 0 rfl;have p1:=rm.cell 1 rfl;have p2:=rm.cell 2 rfl;have bye:=Eg.cell SV (fun e=>absurd (hX _ e).1 (cS _));clear sm hx hme yL
  gi_wp2
  refine (UP hR).mono ?_;rintro e W5 ⟨eu,⟨rfl,ux⟩ | ⟨rfl,ux⟩⟩
  ·gi_wp2
   refine ⟨eu,?_,Eg.trans eu⟩;rw [ao];exact ux
  ·gi_wp2
   exact ⟨eu,rfl,ux⟩
 case done=>
  rintro W3 dz hK3 ⟨hJ3,-⟩;rw [cz,dD] at hJ3;have cs3:=dz.cell cs2 YI;have hv3:=hv2.mod dz YH;have by3:=dz.cell SV (fun e=>absurd (hX _ e).1 (cS _));have z3:=dz.size;gi_wp2_with (refine ⟨trivial,?_⟩;gi_at_call 118;refine (yDe (n - 1) _ _ _ _).mono ?_;rintro e w' ⟨rfl,rfl⟩);obtain ⟨w4,hw4⟩:∃ z,z=W3.alloc (.cells #[.slice va cs.length vc] 62):=⟨_,rfl⟩;have gM:Mod dZ W3 w4:=by rw [hw4];exact (Mod.refl _ W3).alloc _
  have z4:w4.heap.size=W3.heap.size+1:=by rw [hw4,World.size_alloc]
  have hb4:dh w4 W3.heap.size [.slice va cs.length vc] 62:=by rw [hw4];exact dh.new W3 _ _
  rw [<-hw4];have by4:=gM.cell by3 id;have z4a:W3.heap.size+1<=w4.heap.size:=by omega
  have z4b:w4.heap.size<=W3.heap.size+1:=by omega
  have hK4:w4.heap[w2.heap.size]?=some (.deferred (some [])):=(gM.block _ (aK.1 hK3).1 id).trans hK3;clear hw4 z4;have hv4:=hv3.mod gM (fun _ _=>id);have hX4:∀ k,X k->k<w4.heap.size/\¬(k<N\/k=W3.heap.size):=fun k hk=>by
   have:=hX k hk;exact ⟨by omega,fun e=>e.elim (fun e=>this.2 (.inl e)) (fun e=>by omega)⟩
  refine QU (gf:=158) (lb:=#[.pointer (some ⟨W3.heap.size,0,none⟩)]) rfl (enters_of Tryz.func158 (by kernel_rfl) rfl)
   (zVc (n - 1) (by omega) W3.heap.size N (.slice va cs.length vc) cs us hlen hpl w4 (hb4.cell 0 rfl) hv4 (by omega)) (fun _=>rfl) X hX4
   (fun k e=>by omega)
   (fun pre Wc=>J (ws.reverse++pre) Wc/\Mod X w4 Wc) (fun c Wc=>c=.ret/\Jx Wc)
   (fun s A B hm hs hj=>⟨(hJ.mono (by omega)) _ A B hm hs hj.1,hj.2.since hm (aF _)⟩) (fun s A B hm hs hj=>⟨hj.1,(Ek.mono (by omega)) () A B hm hs hj.2⟩)
   ⟨by rw [dC];exact hJ _ W3 w4 (gM.mono (fun _ _ e=>e.elim)) (by omega) hJ3,Mod.refl _ _⟩ ?round2 ?done2 ?stop2
  case round2=>
   rintro pre p rest Wq hx ⟨hJq,hMq⟩ hsz;have sm:ws.reverse++pI cs=(ws.reverse++pre)++p :: rest:=by rw [hx];simp
   obtain ⟨key,val,gone⟩:=p;dsimp only [vD]
   gi_wp2
   refine ⟨(Mod.refl _ Wq).alloc _,?_⟩;rintro We hme ⟨r2,hr2⟩ ⟨OQ,Eg⟩;obtain ⟨fn,tmps,assign,body,hy,hR⟩:=hY _ _ _ We sm OQ;dsimp only [vD] at hy;have rm:dh We Wq.heap.size [.string key,.string val,.bool gone] 68:=(dh.new Wq _ _).mod hme (by simp only [eF];omega);obtain ⟨Bq,yL⟩:∃ z,z=Wq.heap.size:=⟨_,rfl⟩;rw [<-yL] at rm ⊢;have p0:=rm.cell 0 rfl;have p1:=rm.cell 1 rfl;have p2:=rm.cell 2 rfl;have bye:=Eg.cell by4 (fun e=>absurd (hX _ e).1 (cS _));clear sm hx hme yL
   gi_wp2
   refine (UP hR).mono ?_;rintro e W5 ⟨eu,⟨rfl,ux⟩ | ⟨rfl,ux⟩⟩
   ·gi_wp2
    refine ⟨eu,?_,Eg.trans eu⟩;rw [<-aU];exact ux
   ·gi_wp2
    exact ⟨eu,rfl,ux⟩
  case done2=>
   rintro W5 eu ox ⟨ux,-⟩
   gi_wp2
   have Ej:(W5.putObj w4.heap.size (.deferred none)).heap[w2.heap.size]?=some (.deferred (some [])):=by
    rw [World.putObj_heap_other (by omega),eu.block _ (by omega) (fun e=>by have:=(hX _ e).1;omega)];exact hK4
   refine ⟨by simp,.inl ⟨_,_,rfl,run_takeDeferred ox,⟨by simp,.inl ⟨_,_,rfl,run_takeDeferred Ej,?_⟩⟩⟩⟩;have qQ:Mod (jU W.heap.size) W5 ((W5.putObj w4.heap.size (.deferred none)).putObj w2.heap.size (.deferred none)):=((Mod.refl _ _).putObj (fun _=>by simp only [jU];omega) _).putObj (fun _=>by simp only [jU];omega) _;have hs5:W.heap.size<=W5.heap.size:=by have:=eu.size;omega
   exact ⟨_,results_none rfl _ _ _,⟨_,rfl⟩,((((hm2.mono (fun _ _ e=>e.elim)).trans dz).trans (gM.mono (fun _ _ e=>e.elim))).trans eu).since qQ (aF _),.inl (hJ _ _ _ qQ hs5 ux)⟩
  case stop2=>
   rintro c W5 eu ox ⟨rfl,ux⟩
   gi_wp2
   have Ej:(W5.putObj w4.heap.size (.deferred none)).heap[w2.heap.size]?=some (.deferred (some [])):=by
    rw [World.putObj_heap_other (by omega),eu.block _ (by omega) (fun e=>by have:=(hX _ e).1;omega)];exact hK4
   refine ⟨by simp,.inl ⟨_,_,rfl,run_takeDeferred ox,⟨by simp,.inl ⟨_,_,rfl,run_takeDeferred Ej,?_⟩⟩⟩⟩;have qQ:Mod (jU W.heap.size) W5 ((W5.putObj w4.heap.size (.deferred none)).putObj w2.heap.size (.deferred none)):=((Mod.refl _ _).putObj (fun _=>by simp only [jU];omega) _).putObj (fun _=>by simp only [jU];omega) _;have hs5:W.heap.size<=W5.heap.size:=by have:=eu.size;omega
   exact ⟨_,results_none rfl _ _ _,⟨_,rfl⟩,((((hm2.mono (fun _ _ e=>e.elim)).trans dz).trans (gM.mono (fun _ _ e=>e.elim))).trans eu).since qQ (aF _),.inr (Ek () _ _ qQ hs5 ux)⟩
 case stop=>
  rintro c W3 dz hK3 ⟨rfl,KF⟩
  gi_wp2
  refine ⟨by simp,.inl ⟨_,_,rfl,run_takeDeferred hK3,?_⟩⟩;have qQ:Mod (jU W.heap.size) W3 (W3.putObj w2.heap.size (.deferred none)):=(Mod.refl _ _).putObj (fun _=>by simp only [jU];omega) _;have hs3:W.heap.size<=W3.heap.size:=aM hm2.size dz.size;exact ⟨_,results_none rfl _ _ _,⟨_,rfl⟩,((hm2.mono (fun _ _ e=>e.elim)).trans dz).since qQ (aF _),.inr (Ek () _ _ qQ hs3 KF)⟩
attribute [local go_sem] Oper.semAt_some
def wT(xs:List fR)(key:ByteArray):ByteArray × Bool:=match xs.find? fun p=>decide (p.key=key) with
 | none=>(ByteArray.empty,false)
 | some p=>if p.gone then (ByteArray.empty,false) else (p.val,true)
theorem yFj{xs:List fR}{key:ByteArray}(h:∀ p∈xs,p.key≠key):wT xs key=(ByteArray.empty,false):=by
 unfold wT;rw [cZ.2 (fun p hp=>by simpa using h p hp)]
theorem yFi{pre rest:List fR}{p:fR}{key:ByteArray}(h:∀ p∈pre,p.key≠key)(hp:p.key=key):wT (pre++p :: rest) key=if p.gone then (ByteArray.empty,false) else (p.val,true):=by
 unfold wT;rw [List.find?_append,cZ.2 (fun p hp=>by simpa using h p hp),List.find?_cons_of_pos (by simpa using hp)];rfl
theorem yPr(b:Nat)(v tv:Value)(ws:List fR)(cs:List dt)(us:List Value)(key:ByteArray)(pL:ws.length<=1000)(hlen:cs.length<=1000)(hpl:∀ c∈cs,c.kind=3->∃ i d,kq cs 2 c.tx=some i/\cs[i]?=some d/\d.writes.length<=1000)(w:World)
  (hb:w.cell? ⟨b,2,none⟩=some tv) (pM:gG w w.heap.size 3 Bi tv ws) (hv:rr w w.heap.size v cs us) :
  Calls Tryz.prog 39 #[.pointer (some ⟨b,0,none⟩),v,.string key] w fun e w'=>e=.returned (.tuple #[.string (wT (ws.reverse++pI cs) key).1,.bool (wT (ws.reverse++pI cs) key).2])/\Mod dZ w w':=by
 obtain ⟨n,hn⟩:∃ n:Nat,40<=n:=⟨40,aF _⟩;have n1:1<=n:=by omega
 refine (callsIn_wide (n:=n)).1 ?_;have zW:(cs.zip us).length=cs.length:=by rw [bz,hv.1];omega
 obtain ⟨va,vc,lI,-,-⟩:=hv.2.1.slice;rw [zW] at lI;subst lI;clear zW;refine callsIn_of_wp_marks Tryz.func39 rfl trivial ?_ rfl;simp only [Tryz.ntmps39,au,aW,an,Nat.reduceAdd,Nat.reduceSub,bY,bX,bp,bc,ak,bU];gi_wp2_with (refine ⟨trivial,?_⟩;gi_at_call 71;refine (yTb _ _ _ _ _ _).mono ?_;rintro e w' ⟨rfl,rfl⟩);obtain ⟨w1,hw1⟩:∃ z,z=w.alloc (.cells #[.string key] 9):=⟨_,rfl⟩;obtain ⟨w2,hw2⟩:∃ z,z=w1.alloc (.cells #[.string ⟨#[]⟩] 9):=⟨_,rfl⟩;obtain ⟨w3,hw3⟩:∃ z,z=w2.alloc (.cells #[.bool false] 4):=⟨_,rfl⟩;obtain ⟨w4,hw4⟩:∃ z,z=w3.alloc (.cells #[.pointer (some ⟨b,0,none⟩)] 87):=⟨_,rfl⟩;obtain ⟨w5,rE⟩:∃ z,z=w4.alloc (.cells #[.slice va cs.length vc] 62):=⟨_,rfl⟩;have z1:w1.heap.size=w.heap.size+1:=by rw [hw1,World.size_alloc]
 have z2:w2.heap.size=w.heap.size+2:=by rw [hw2,World.size_alloc,z1]
 have z3:w3.heap.size=w.heap.size+3:=by rw [hw3,World.size_alloc,z2]
 have z4:w4.heap.size=w.heap.size+4:=by rw [hw4,World.size_alloc,z3]
 have z5:w5.heap.size=w.heap.size+5:=by rw [rE,World.size_alloc,z4]
 have m1:Mod dZ w w1:=by rw [hw1];exact (Mod.refl _ w).alloc _
 have m2:Mod dZ w1 w2:=by rw [hw2];exact (Mod.refl _ w1).alloc _
 have m3:Mod dZ w2 w3:=by rw [hw3];exact (Mod.refl _ w2).alloc _
 have m4:Mod dZ w3 w4:=by rw [hw4];exact (Mod.refl _ w3).alloc _
 have m5:Mod dZ w4 w5:=by rw [rE];exact (Mod.refl _ w4).alloc _
 have hK:dh w5 w.heap.size [.string key] 9:=by
  have:dh w1 w.heap.size [.string key] 9:=by rw [hw1];exact dh.new w _ _
  exact (((this.mod m2 id).mod m3 id).mod m4 id).mod m5 id
 have h6:dh w5 (w.heap.size+1) [.string ⟨#[]⟩] 9:=by
  have:dh w2 (w.heap.size+1) [.string ⟨#[]⟩] 9:=by rw [<-z1,hw2];exact dh.new w1 _ _
  exact ((this.mod m3 id).mod m4 id).mod m5 id
 have h7:dh w5 (w.heap.size+2) [.bool false] 4:=by
  have:dh w3 (w.heap.size+2) [.bool false] 4:=by rw [<-z2,hw3];exact dh.new w2 _ _
  exact (this.mod m4 id).mod m5 id
 have h8:dh w5 (w.heap.size+3) [.pointer (some ⟨b,0,none⟩)] 87:=by
  have:dh w4 (w.heap.size+3) [.pointer (some ⟨b,0,none⟩)] 87:=by rw [<-z3,hw4];exact dh.new w3 _ _
  exact this.mod m5 id
 have h9:dh w5 (w.heap.size+4) [.slice va cs.length vc] 62:=by rw [<-z4,rE];exact dh.new w4 _ _
 have hm:Mod dZ w w5:=(((m1.trans m2).trans m3).trans m4).trans m5;rw [<-hw1,<-hw2,<-hw3,<-hw4,<-rE];have Cs:=World.block_lt_of_cell? w _ hb;dsimp only at Cs;have za:w5.heap.size<=w.heap.size+5:=by omega
 have zb:w.heap.size+5<=w5.heap.size:=by omega
 clear hw1 hw2 hw3 hw4 rE z1 z2 z3 z4 z5 m1 m2 m3 m4 m5;have nP:=hm.cell hb id;have Wi:=pM.mod hm (fun _ _=>id) (fun _ _ e=>e);have Wd:=hv.mod hm (fun _ _=>id);have jq:∀ (A:World) (x y:Value),Mod (fun k=>k=w.heap.size+1\/k=w.heap.size+2) A ((A.setCell ⟨w.heap.size+1,0,none⟩ x).setCell ⟨w.heap.size+1+1,0,none⟩ y):=fun A x y=>
  ((Mod.refl _ A).setCell (p:=⟨w.heap.size+1,0,none⟩) (fun _=>.inl rfl) x).setCell (p:=⟨w.heap.size+1+1,0,none⟩) (fun _=>.inr rfl) y
 have Ym:∀ {A:World} {u:Value} (h:dh A (w.heap.size+1) [u] 9) (x y:Value),dh ((A.setCell ⟨w.heap.size+1,0,none⟩ x).setCell ⟨w.heap.size+1+1,0,none⟩ y) (w.heap.size+1) [x] 9:=fun {A u} h x y=>
  (h.set 0 x).mod (Mod.dq (w.heap.size+1+1) 0 y) (by simp only [eF];omega)
 have Yl:∀ {A:World} {u:Value} (h:dh A (w.heap.size+2) [u] 4) (x y:Value),dh ((A.setCell ⟨w.heap.size+1,0,none⟩ x).setCell ⟨w.heap.size+1+1,0,none⟩ y) (w.heap.size+2) [y] 4:=fun {A u} h x y=>
  (h.mod (Mod.dq (w.heap.size+1) 0 x) (by simp only [eF];omega)).set 0 y
 obtain ⟨DL,Cv⟩:∃ z,z=wT (ws.reverse++pI cs) key:=⟨_,rfl⟩;refine QU (gf:=116) (lb:=#[.pointer (some ⟨w.heap.size+3,0,none⟩),.pointer (some ⟨w.heap.size+4,0,none⟩)]) rfl (enters_of Tryz.func116 (by kernel_rfl) rfl)
  (yIn (n - 1) (by omega) (w.heap.size+3) (w.heap.size+4) w.heap.size b (.slice va cs.length vc) tv ws cs us pL hlen hpl w5 (h8.cell 0 rfl) nP Cs Wi (h9.cell 0 rfl) Wd hm.size) (fun _=>rfl)
  (fun k=>k=w.heap.size+1\/k=w.heap.size+2) (fun k e=>by omega) (fun k e=>by omega)
  (fun pre Wc=>(∀ p∈pre,p.key≠key)/\dh Wc w.heap.size [.string key] 9/\dh Wc (w.heap.size+1) [.string ⟨#[]⟩] 9/\dh Wc (w.heap.size+2) [.bool false] 4)
  (fun c Wc=>c=.ret/\dh Wc (w.heap.size+1) [.string DL.1] 9/\dh Wc (w.heap.size+2) [.bool DL.2] 4)
  (fun s A B hmm hs hj=>⟨hj.1,hj.2.1.mod hmm (by simp only [jU];omega),hj.2.2.1.mod hmm (by simp only [jU];omega),hj.2.2.2.mod hmm (by simp only [jU];omega)⟩)
  (fun s A B hmm hs hj=>⟨hj.1,hj.2.1.mod hmm (by simp only [jU];omega),hj.2.2.mod hmm (by simp only [jU];omega)⟩)
  ⟨by simp,hK,h6,h7⟩ ?round ?done ?stop
 case round=>
  rintro pre p rest Wq hx ⟨hpre,Rp,KJ,KI⟩ hsz;obtain ⟨pk,pv,gone⟩:=p;dsimp only [vD]
  gi_wp2
  refine ⟨(Mod.refl _ Wq).alloc _,?_⟩;rintro We hme ⟨r2,hr2⟩ ⟨-,Ei,OW,OV⟩;have rm:dh We Wq.heap.size [.string pk,.string pv,.bool gone] 68:=(dh.new Wq _ _).mod hme (by simp only [eF];omega);obtain ⟨Bq,yL⟩:∃ z,z=Wq.heap.size:=⟨_,rfl⟩;rw [<-yL] at rm ⊢;have p0:=rm.cell 0 rfl;have p1:=rm.cell 1 rfl;have p2:=rm.cell 2 rfl;have k0:=Ei.cell 0 rfl;have f6:=OW.frozen 0;have f7:=OV.frozen 0;have c6:=OW.cell 0 rfl;have c7:=OV.cell 0 rfl;by_cases hk:pk=key
  ·subst hk;have HA:Hid (DL=if gone then (ByteArray.empty,false) else (pv,true)):=by
    unfold Hid;rw [Cv,hx,yFi hpre rfl]
   clear Cv hx yL
   cases gone with
   | true=>
    gi_wp2
    have e6:DL.1=⟨#[]⟩:=by rw [HA.out];rfl
    have e7:DL.2=false:=by rw [HA.out];rfl
    exact ⟨jq We _ _,rfl,by rw [e6];exact Ym OW _ _,by rw [e7];exact Yl OV _ _⟩
   | false=>
    gi_wp2
    have e6:DL.1=pv:=by rw [HA.out];rfl
    have e7:DL.2=true:=by rw [HA.out];rfl
    exact ⟨jq We _ _,rfl,by rw [e6];exact Ym OW _ _,by rw [e7];exact Yl OV _ _⟩
  ·have hkb:(pk.toList == key.toList)=false:=by
    rw [bk];intro q;rw [ByteArray.toList_eq,ByteArray.toList_eq] at q;exact hk (Qa q)
   clear Cv hx yL
   gi_wp2
   refine ⟨Mod.refl _ _,fun p hp=>?_,Ei,OW,OV⟩;rcases aL.1 hp with hp | hp
   ·exact hpre p hp
   ·rw [bK] at hp;subst hp;exact hk
 case done=>
  rintro W3 dz hK3 ⟨hpre,Rp,KJ,KI⟩;have f6:=KJ.frozen 0;have f7:=KI.frozen 0;have c6:=KJ.cell 0 rfl;have c7:=KI.cell 0 rfl
  gi_wp2
  have iV:=jq W3 (.string ⟨#[]⟩) (.bool false);have hK4:=iV.block w5.heap.size (aK.1 hK3).1 (by omega);rw [hK3] at hK4;refine ⟨by simp,.inl ⟨_,_,rfl,run_takeDeferred hK4,?_⟩⟩;obtain ⟨W4,hW4⟩:∃ z,z=(W3.setCell ⟨w.heap.size+1,0,none⟩ (.string ⟨#[]⟩)).setCell ⟨w.heap.size+1+1,0,none⟩ (.bool false):=⟨_,rfl⟩;have h6s:=Ym KJ (.string ⟨#[]⟩) (.bool false);have h7s:=Yl KI (.string ⟨#[]⟩) (.bool false);rw [<-hW4] at iV h6s h7s ⊢;have qQ:Mod (jU w5.heap.size) W4 (W4.putObj w5.heap.size (.deferred none)):=(Mod.refl _ _).putObj (fun _=>by simp only [jU];omega) _;have c6:=(h6s.mod qQ (by simp only [jU];omega)).cell 0 rfl;have c7:=(h7s.mod qQ (by simp only [jU];omega)).cell 0 rfl;have e:=yFj hpre;refine ⟨.tuple #[.string ⟨#[]⟩,.bool false],?_,by rw [e];rfl,?_⟩
  ·simp [results,Tryz.f39,go_sem,c6,c7]
  ·exact ((hm.mono (fun _ _ e=>e.elim)).trans' ((dz.trans iV).since qQ (by have:=dz.size;omega)) (fun i hi e=>by omega))
 case stop=>
  rintro c W3 dz hK3 ⟨rfl,KJ,KI⟩
  gi_wp2
  refine ⟨by simp,.inl ⟨_,_,rfl,run_takeDeferred hK3,?_⟩⟩;have qQ:Mod (jU w5.heap.size) W3 (W3.putObj w5.heap.size (.deferred none)):=(Mod.refl _ _).putObj (fun _=>by simp only [jU];omega) _;have c6:=(KJ.mod qQ (by simp only [jU];omega)).cell 0 rfl;have c7:=(KI.mod qQ (by simp only [jU];omega)).cell 0 rfl;refine ⟨.tuple #[.string DL.1,.bool DL.2],?_,by rw [Cv],?_⟩
  ·simp [results,Tryz.f39,go_sem,c6,c7]
  ·exact ((hm.mono (fun _ _ e=>e.elim)).trans' (dz.since qQ (aF _)) (fun i hi e=>by omega))
end Go.Proofs.YtmaiggbnceejiaaGreatDoor
