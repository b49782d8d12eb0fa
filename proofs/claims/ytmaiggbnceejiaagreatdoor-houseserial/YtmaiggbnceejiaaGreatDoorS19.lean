import Derived.Test.YtmaiggbnceejiaaGreatDoorS18
import Derived.Sort.CutIn
import Derived.Test.YtmaiggbnceejiaaGreatDoorS17
import Derived.Test.YtmaiggbnceejiaaGreatDoorS07
import Derived.Test.YtmaiggbnceejiaaGreatDoorS02
import Derived.Maps.OwnSet
import Derived.Maps.AppendAt
import Derived.RegionTactic
import Derived.StringKeys
set_option linter.unusedVariables false
set_option maxRecDepth 100000
set_option maxHeartbeats 16000000
namespace Go.Proofs.YtmaiggbnceejiaaGreatDoor
open Go.RowKit Go.Lib Go.Maps Go.Shelf
attribute [local go_sem] Oper.semAt_some
theorem UY{m m' l':Nat}{P:Program}{l:Nat}{f:FuncId}{tmps:Array Value}{assign body:Code}{w:World}{R:Ending->World->Prop}(h:RoundIn Fence.wide m P l f tmps assign body w R):RoundIn (Fence.wide.inRound l') m' P l f tmps assign body w R:=
 ⟨h.1,fun c cs _=>h.2 c cs (fun d e=>nomatch e)⟩
theorem yW.mono{β:Type}{N N':Nat}{J:β->World->Prop}(h:yW N J)(hN:N<=N'):yW N' J:=fun s A B hm hs hj=>h s A B (hm.mono (fun i _ hi=>aJ hN hi)) (aJ hN hs) hj
def sL(w:World)(N:Nat)(v:Value)(cs:List dv)(us:List Value):Prop:=
 us.length=cs.length/\fV w N 4 Eg v (cs.zip us)/\∀ (i:Nat) c u,cs[i]?=some c->us[i]?=some u->fV w N 3 Ca u c.writes
theorem sL.mod{w w':World}{N:Nat}{v:Value}{cs:List dv}{us:List Value}{G:Nat->Prop}(h:sL w N v cs us)(hm:Mod G w w')(hG:∀ k,k<N->¬ G k):sL w' N v cs us:=
 ⟨h.1,h.2.1.mod hm hG (fun _ _ e=>e),fun i c u hi hu=>(h.2.2 i c u hi hu).mod hm hG (fun _ _ e=>e)⟩
theorem fV.wide{α:Type}{w:World}{L sz:Nat}{R:α->List Value->Prop}{v:Value}{ds:List α}(h:fV w L sz R v ds)(hL:L<=w.heap.size):fV w w.heap.size sz R v ds:=by
 obtain ⟨a,cap,h1,h2,h3,h4⟩:=h;exact ⟨a,cap,h1,h2,h3,h4.imp id (fun ⟨b,off,e1,e2,e3⟩=>⟨b,off,e1,by omega,e3⟩)⟩
theorem fV.blk{α:Type}{w:World}{L sz:Nat}{R:α->List Value->Prop}{v:Value}{ds:List α}(h:fV w L sz R v ds)(hne:ds≠[]){k:Nat}(hk:v.ownBlock=some k):k<L:=by
 obtain ⟨a,cap,rfl,h2,h3,h4⟩:=h;rcases h4 with h4 | ⟨b,off,rfl,hb,_⟩
 ·exact absurd h4 hne
 ·cases hk;exact hb
theorem sL.ZD{w:World}{N:Nat}{v:Value}{cs:List dv}{us:List Value}(h:sL w N v cs us)(hL:N<=w.heap.size):tz w v cs:=
 ⟨us,⟨h.1,fun u hu=>by
  obtain ⟨i,hi⟩:=aO hu;have hil:i<cs.length:=by have:=(aB.1 hi).1;have:=h.1;omega
  obtain ⟨a,cap,e,_⟩:=h.2.2 i _ u (aA hil) hi;exact ⟨_,_,_,e⟩⟩,h.2.1.wide hL⟩
def nH(log:List dv)(c:dv):List fQ:=if c.kind=3 then ((log.getD ((kp log 2 c.tx).getD 0) uf).writes).reverse else []
theorem yRt(log:List dv):pQ log=log.reverse.flatMap (nH log):=by
 unfold pQ;generalize log.reverse=l
 induction l with
 | nil=>rfl
 | cons c l ih=>
  by_cases h:c.kind=3
  ·rw [List.filter_cons_of_pos (by simpa using h),bH,bH,ih];simp [nH,h]
  ·rw [List.filter_cons_of_neg (by simpa using h),bH,ih];simp [nH,h]
theorem yGv(cs:List dv)(us:List Value)(h:us.length=cs.length):((cs.zip us).zipIdx.reverse).flatMap (fun (x:(dv × Value) × Nat)=>nH cs x.1.1)=pQ cs:=by
 rw [yRt];have e:((cs.zip us).zipIdx.reverse).map (fun (x:(dv × Value) × Nat)=>x.1.1)=cs.reverse:=by
  rw [dD];congr 1;have:(cs.zip us).zipIdx.map (fun (x:(dv × Value) × Nat)=>x.1.1)=((cs.zip us).zipIdx.map Prod.fst).map Prod.fst:=by rw [dO];rfl
  rw [this,dF,List.map_fst_zip (by omega)]
 rw [<-e,List.flatMap_map]
def vW(p:fQ):Array Value:=#[.agg #[.string p.key,.string p.val,.bool p.gone]]
theorem zVf(n:Nat)(hn:10<=n)(Bs N:Nat)(v:Value)(cs:List dv)(us:List Value)(hlen:cs.length<=1000)(hpl:∀ c∈cs,c.kind=3->∃ i d,kp cs 2 c.tx=some i/\cs[i]?=some d/\d.writes.length<=1000)(w:World)(hc:w.cell? ⟨Bs,0,none⟩=some v)(hv:sL w N v cs us)(hN:N<=w.heap.size) :
  Iter n Tryz.prog 158 #[.pointer (some ⟨Bs,0,none⟩)] vW (fun k=>k<N\/k=Bs) (pQ cs) w:=fun l X J Jx W hW hX hJ Ff hY h0=>by
 have n1:1<=n:=by omega
 have n2:1<=n - 1 - 1:=by omega
 have n3:1<=n - 1 - 1 - 1 - 1:=by omega
 have hc':=hW.cell hc id;have hv':=hv.mod hW (fun _ _=>id);have hN':N<=W.heap.size:=aJ hN hW.size;obtain ⟨va,vc,lI,_,_⟩:=hv'.2.1.slice;have Aa:(cs.zip us).length=cs.length:=by rw [cD,hv.1];omega
 rw [Aa] at lI;subst lI;obtain ⟨w1,hw1⟩:∃ z,z=W.alloc (.cells #[.func (.yield l) #[] #[]] 178):=⟨_,rfl⟩;have dh:Mod dZ W w1:=by rw [hw1];exact (Mod.refl _ W).alloc _
 have hz1:w1.heap.size=W.heap.size+1:=by rw [hw1,World.size_alloc]
 have hb1:dg w1 W.heap.size [.func (.yield l) #[] #[]] 178:=by rw [hw1];exact dg.new W _ _
 have c1:(W.alloc (.cells #[.func (.yield l) #[] #[]] 178)).cell? ⟨Bs,0,none⟩=some (.slice va cs.length vc):=by rw [<-hw1];exact dh.cell hc' id
 refine callsIn_of_wp_marks Tryz.func158 rfl trivial ?_ rfl;simp only [Tryz.ntmps158,bC,aW,az,Nat.reduceAdd,Nat.reduceSub,bb,ba,bp,bd,aY,bF];gi_wp2_with (refine ⟨trivial,?_⟩;gi_at_call 159;refine (yTw none (n - 1) _ _ _ _).mono ?_;rintro e w' ⟨rfl,rfl⟩);rw [<-hw1] at c1 ⊢;obtain ⟨w2,hw2⟩:∃ z,z=w1.alloc (.cells #[.slice va cs.length vc] 62):=⟨_,rfl⟩;have xp:Mod dZ w1 w2:=by rw [hw2];exact (Mod.refl _ w1).alloc _
 have hm2:Mod dZ W w2:=dh.trans xp;have hz2:w2.heap.size=W.heap.size+2:=by rw [hw2,World.size_alloc,hz1]
 have hb2:dg w2 (W.heap.size+1) [.slice va cs.length vc] 62:=by rw [<-hz1,hw2];exact dg.new w1 _ _
 have Sm:=(hb1.mod xp id).cell 0 rfl;have c2:=xp.cell c1 id;rw [<-hw2];have hv2:=hv'.mod hm2 (fun _ _=>id);have yD:∀ k,X k->k<w2.heap.size/\¬(k=W.heap.size+1\/(cs.zip us≠[]/\(Value.slice va cs.length vc).ownBlock=some k)):=fun k hk=>by
  have:=hX k hk;refine ⟨by omega,fun e=>?_⟩;rcases e with e | ⟨e1,e2⟩
  ·omega
  ·exact this.2 (.inl (hv2.2.1.blk e1 e2))
 have Wk:w2.heap.size<=W.heap.size+2:=by omega
 have Wj:W.heap.size+2<=w2.heap.size:=by omega
 clear hw1 hw2 hz1 hz2;have hU:∀ {N0:Nat} {w0:World},w0.heap.size<=N0->yW N0 (fun (_:Unit) Wc=>Mod X w0 Wc):=fun hz _ A B hm _ hj=>hj.since hm hz;refine RH (gf:=177) (lb:=#[.pointer (some ⟨W.heap.size+1,0,none⟩)]) rfl (enters_of Tryz.func177 (by kernel_rfl) rfl)
  (yLk (n - 1) (W.heap.size+1) (.slice va cs.length vc) (cs.zip us) (by omega) w2 (hb2.cell 0 rfl) (hv2.2.1.wide (by omega))) (fun _=>rfl) X yD
  (fun k e=>by
   rcases e with e | ⟨e1,e2⟩
   ·omega
   ·have:=hv2.2.1.blk e1 e2;omega)
  (fun pre Wc=>J (pre.flatMap fun (x:(dv × Value) × Nat)=>nH cs x.1.1) Wc/\Mod X w2 Wc) (fun c Wc=>c=.ret/\Jx Wc)
  (fun s A B hm hs hj=>⟨(hJ.mono (by omega)) _ A B hm hs hj.1,hj.2.since hm (aF _)⟩) (fun s A B hm hs hj=>⟨hj.1,(Ff.mono (by omega)) () A B hm hs hj.2⟩)
  ⟨(hJ.mono (N':=W.heap.size) (aF _)) [] W w2 (hm2.mono (fun _ _ e=>e.elim)) (aF _) h0,Mod.refl _ _⟩ ?round ?done ?stop
 case round=>
  rintro pre x rest Wr hx ⟨hJr,qz⟩ hsz;obtain ⟨⟨cm,u⟩,j⟩:=x;obtain ⟨i,hi1,hi2⟩:∃ i:Nat,cs[i]?=some cm/\us[i]?=some u:=by
   have hmem:((cm,u),j)∈(cs.zip us).zipIdx.reverse:=by rw [hx];simp
   rw [List.mem_reverse] at hmem;have:=List.fst_mem_of_mem_zipIdx hmem;obtain ⟨i,hi⟩:=aO this;exact ⟨i,Qp hi⟩
  obtain ⟨ua,uc,hu,-,-⟩:=(hv2.2.2 i cm u hi1 hi2).slice;subst hu;obtain ⟨kind,tx,time,ws⟩:=cm;have hcm:=aC hi1;have HX:Hid (∃ tail,pQ cs=pre.flatMap (fun (x:(dv × Value) × Nat)=>nH cs x.1.1)++(nH cs ⟨kind,tx,time,ws⟩++tail)):=by
   refine ⟨rest.flatMap (fun (x:(dv × Value) × Nat)=>nH cs x.1.1),?_⟩;rw [<-yGv cs us hv.1,hx,dG,bH]
  clear hx hi1 hi2;dsimp only [Dr]
  gi_wp2
  refine ⟨(Mod.refl _ Wr).alloc _,?_⟩;rintro Wb hmb ⟨r,hr⟩ ⟨Yk,yF⟩;have AW:Wr.heap.size≠w2.heap.size+1:=by omega
  obtain ⟨Bx,Sg⟩:∃ z,z=Wr.heap.size:=⟨_,rfl⟩;have hbx:dg Wb Bx [.int .i64 kind,.int .i64 tx,.int .i64 time,.slice ua ws.length uc] 65:=by rw [Sg];exact (dg.new Wr _ _).mod hmb AW
  rw [<-Sg];replace AW:Bx≠w2.heap.size+1:=by rw [Sg];exact AW
  have hBx1:w2.heap.size+1<Bx:=by omega
  clear Sg hmb;have x0:=hbx.cell 0 rfl;have x1:=hbx.cell 1 rfl;by_cases hk:kind=3
  ·subst hk;obtain ⟨i,d,hp,hd,xz⟩:=hpl _ hcm rfl;have YQ:¬ X Bs:=fun e=>(hX _ e).2 (.inr rfl);have YP:∀ k,k<N->¬ X k:=fun k hk e=>(hX _ e).2 (.inl hk);have cb:=yF.cell c2 YQ;have hvb:=hv2.mod yF YP;have hNb:N<=Wb.heap.size:=by have:=yF.size;omega
   have hil:i<cs.length:=(aB.1 hd).1;obtain ⟨u2,hu2⟩:∃ z,us[i]?=some z:=⟨_,aA (by rw [hv.1];exact hil)⟩;have hdu:(cs.zip us)[i]?=some (d,u2):=by rw [List.getElem?_zip_eq_some];exact ⟨hd,hu2⟩
   obtain ⟨lb,lo,ls,FM,hlb,hls,-,hcl⟩:=hvb.2.1.at hdu;obtain ⟨da,dc,hud,-,-⟩:=(hvb.2.2 i d u2 hd hu2).slice;subst hud FM;unfold Eg at hls;subst hls;have cu:=hcl 3 _ rfl;have OZ:iR (kp cs 2 tx)=(i:Int):=by rw [hp];rfl
   have lq:Hid (∀ wx,Mod dZ Wb wx->CallsIn (Fence.wide.inRound (w2.heap.size+1)) (n - 1 - 1 - 1) Tryz.prog 80 #[.slice (some ⟨lb,lo,none⟩) cs.length vc,.int .i64 2,.int .i64 tx] wx fun e w'=>e=.returned (.int .i64 (i:Int))/\Mod dZ wx w'):=fun wx hmx=>
    CallsIn.inRound (w2.heap.size+1) (callsIn_wide.2 (by have:=UL _ cs 2 tx wx ((hvb.mod hmx (fun _ _=>id)).ZD (aJ hNb hmx.size)) hlen;rw [OZ] at this;exact this))
   have HO:Hid (nH cs ⟨3,tx,time,ws⟩=d.writes.reverse):=by
    unfold Hid nH;rw [aP rfl];simp only [hp,dL];rw [aI,hd];rfl
   clear OZ hp;have xw:(i:Int)<(cs.length:Int):=by omega
   have hi0:(0:Int)<=(i:Int):=by omega
   have HV:=dV (hvb.2.2 i d _ hd hu2);have byb:=yF.cell Sm (fun e=>absurd (hX _ e).1 (cX _))
   gi_wp2
   gi_cut [22] from 29 (fun t wc=>∃ Bp,t=.func (.func 157) #[] #[.pointer (some ⟨Bp,0,none⟩)]/\Mod dZ Wb wc/\wc.cell? ⟨Bp,0,none⟩=some (.slice da d.writes.length dc)/\Wb.heap.size<=Bp)
   case first=>
    have HM:=dV yF;clear hd hu2 hdu hcl hvb hv2 hv' hv Yk yF hJr qz hU yD hX hY
    gi_region_with (first
     | (refine ⟨trivial,?_⟩;gi_at_call 80;refine (lq.out _ ((Mod.refl dZ Wb).drew)).mono ?_;rintro e w' ⟨rfl,hm'⟩;have cb':=hm'.cell cb id;have cu':=hm'.cell cu id)
     | (refine ⟨trivial,?_⟩;gi_at_call 117;refine (CallsIn.inRound (w2.heap.size+1) (yIm none _ _ _ _ _)).mono ?_;rintro e w'' ⟨rfl,rfl⟩))
    all_goals
     gi_wp2
     gi_meet
     case rel=>exact ⟨_,rfl,(((Mod.refl dZ Wb).drew).trans hm').alloc _,by simp,hm'.size⟩
   case rest=>
    obtain ⟨Bp,rfl,mz,cp,hBp⟩:=hcut
    gi_wp2
    have YS:=HV.out.mod mz (fun _ _=>id) (fun _ _ e=>e);have Io:Mod X w2 wc:=yF.trans' mz (fun _ _ e=>e.elim);have zc:=mz.size;have hrc:wc.heap[w2.heap.size+1]?=some (.loop r):=(mz.block _ (aG.1 hr).1 id).trans hr;have hJc:J (pre.flatMap fun (x:(dv × Value) × Nat)=>nH cs x.1.1) wc:=hJ _ Wb wc (mz.mono (fun _ _ e=>e.elim)) (by have:=yF.size;omega) Yk;have byc:=mz.cell byb id;obtain ⟨tail,AO⟩:=HX.out;rw [HO.out] at AO;have hBl:=World.block_lt_of_cell? wc _ cp;dsimp only at hBl;have hXd:∀ k,X k->k<wc.heap.size/\¬(k=Bp\/(d.writes≠[]/\(Value.slice da d.writes.length dc).ownBlock=some k)):=fun k hk=>by
     have h1:=hX k hk;have h2:=yF.size;refine ⟨by omega,fun e=>?_⟩;rcases e with e | ⟨e1,e2⟩
     ·omega
     ·exact h1.2 (.inl (YS.blk e1 e2))
    refine yRm (l₀:=w2.heap.size+1) (r₀:=r) hrc (gf:=157) (lb:=#[.pointer (some ⟨Bp,0,none⟩)]) rfl (enters_of Tryz.func157 (by kernel_rfl) rfl)
     (zXx (n - 1 - 1 - 1) Bp (.slice da d.writes.length dc) d.writes (by omega) wc cp (YS.wide (by omega))) (fun _=>rfl) X hXd
     (fun k e=>by
      rcases e with e | ⟨e1,e2⟩
      ·omega
      ·have:=YS.blk e1 e2;omega)
     (fun Cx Wc=>J ((pre.flatMap fun (x:(dv × Value) × Nat)=>nH cs x.1.1)++Cx.map Prod.fst) Wc/\Mod X wc Wc) (fun c Wc=>c=.ret/\Jx Wc)
     (fun s A B hm hs hj=>⟨(hJ.mono (by have:=yF.size;omega)) _ A B hm hs hj.1,hj.2.since hm (aF _)⟩) (fun s A B hm hs hj=>⟨hj.1,(Ff.mono (by have:=yF.size;omega)) () A B hm hs hj.2⟩)
     ⟨by simpa using hJc,Mod.refl _ _⟩ ?round2 ?done2 ?stop2
    case round2=>
     rintro Cx ⟨p,j2⟩ Ew Wq hx2 ⟨hJq,hMq⟩ Nf;have tM:pQ cs=((pre.flatMap fun (x:(dv × Value) × Nat)=>nH cs x.1.1)++Cx.map Prod.fst)++p :: (Ew.map Prod.fst++tail):=by
      have e:d.writes.reverse=Cx.map Prod.fst++p :: Ew.map Prod.fst:=by
       have:=ai (List.map Prod.fst) hx2;rw [dD,dF] at this;rw [this];simp
      rw [AO,e];simp
     obtain ⟨key,val,gone⟩:=p;dsimp only [Aw]
     gi_wp2
     refine ⟨(Mod.refl _ Wq).alloc _,?_⟩;rintro We hme ⟨r2,hr2⟩ ⟨PJ,Fa⟩;obtain ⟨fn,tmps,assign,body,hy,hR⟩:=hY _ _ _ We tM PJ;dsimp only [vW] at hy;have sH:dg We Wq.heap.size [.string key,.string val,.bool gone] 68:=(dg.new Wq _ _).mod hme (by simp only [eA];omega);obtain ⟨Bq,zC⟩:∃ z,z=Wq.heap.size:=⟨_,rfl⟩;rw [<-zC] at sH ⊢;have p0:=sH.cell 0 rfl;have p1:=sH.cell 1 rfl;have p2:=sH.cell 2 rfl;have bye:=Fa.cell byc (fun e=>absurd (hX _ e).1 (cX _));clear tM hx2 hme zC AO
     gi_wp2
     refine (UY hR).mono ?_;rintro e W5 ⟨eP,⟨rfl,vR⟩ | ⟨rfl,vR⟩⟩
     ·gi_wp2
      refine ⟨eP,?_,Fa.trans eP⟩;rw [ay,<-aU];exact vR
     ·gi_wp2
      exact ⟨eP,rfl,vR⟩
    case done2=>
     rintro W4 gR ⟨Sc,-⟩
     gi_wp2
     have eP:Mod X Wb W4:=(mz.mono (fun _ _ e=>e.elim)).trans gR;refine ⟨eP,?_,yF.trans eP⟩;rw [dG,List.flatMap_singleton];dsimp only;rw [HO.out];rw [dD,dF] at Sc;exact Sc
    case stop2=>
     rintro c W4 gR ⟨rfl,Sc⟩
     gi_wp2
     exact ⟨(mz.mono (fun _ _ e=>e.elim)).trans gR,rfl,Sc⟩
  ·have hkb:(kind == 3)=false:=by simpa using hk
   gi_wp2
   refine ⟨Mod.refl _ _,?_,yF⟩;rw [dG];simpa [nH,hk] using Yk
 case done=>
  rintro W3 dy hK3 ⟨LG,-⟩
  gi_wp2
  refine ⟨by simp,.inl ⟨_,_,rfl,run_takeDeferred hK3,?_⟩⟩;have qV:Mod (jN W.heap.size) W3 (W3.putObj w2.heap.size (.deferred none)):=(Mod.refl _ _).putObj (fun _=>by simp only [jN];omega) _;have hs3:W.heap.size<=W3.heap.size:=aJ hm2.size dy.size;rw [yGv cs us hv.1] at LG;exact ⟨_,results_none rfl _ _ _,⟨_,rfl⟩,((hm2.mono (fun _ _ e=>e.elim)).trans dy).since qV (aF _),.inl (hJ _ _ _ qV hs3 LG)⟩
 case stop=>
  rintro c W3 dy hK3 ⟨rfl,LG⟩
  gi_wp2
  refine ⟨by simp,.inl ⟨_,_,rfl,run_takeDeferred hK3,?_⟩⟩;have qV:Mod (jN W.heap.size) W3 (W3.putObj w2.heap.size (.deferred none)):=(Mod.refl _ _).putObj (fun _=>by simp only [jN];omega) _;have hs3:W.heap.size<=W3.heap.size:=aJ hm2.size dy.size;exact ⟨_,results_none rfl _ _ _,⟨_,rfl⟩,((hm2.mono (fun _ _ e=>e.elim)).trans dy).since qV (aF _),.inr (Ff () _ _ qV hs3 LG)⟩
attribute [local go_sem] Oper.semAt_some
theorem yDp(n:Nat)(a:Option Addr)(len cap:Nat)(w:World) :
  CallsIn Fence.wide n Tryz.prog 118 #[.slice a len cap] w fun e w'=>e=.returned (.func (.func 158) #[] #[.pointer (some ⟨w.heap.size,0,none⟩)])/\w'=w.alloc (.cells #[.slice a len cap] 62):=by
 refine callsIn_of_wp Tryz.func118 rfl trivial ?_ rfl;simp only [Tryz.ntmps118,bC,aW,az,Nat.reduceAdd,Nat.reduceSub,bb,ba,bp,bd,aY,bF]
 gi_wp2
 go_ret;exact ⟨rfl,rfl⟩
theorem yUp(n:Nat)(b:Nat)(a:Option Addr)(len cap:Nat)(w:World) :
  CallsIn Fence.wide n Tryz.prog 71 #[.pointer (some ⟨b,0,none⟩),.slice a len cap] w fun e w'=>e=.returned (.func (.func 116) #[] #[.pointer (some ⟨w.heap.size,0,none⟩),.pointer (some ⟨w.heap.size+1,0,none⟩)])/\w'=(w.alloc (.cells #[.pointer (some ⟨b,0,none⟩)] 87)).alloc (.cells #[.slice a len cap] 62):=by
 refine callsIn_of_wp Tryz.func71 rfl trivial ?_ rfl;simp only [Tryz.ntmps71,bC,aW,az,Nat.reduceAdd,Nat.reduceSub,bb,ba,bp,bd,aY,bF]
 gi_wp2
 go_ret;exact ⟨rfl,rfl⟩
theorem yJm(n:Nat)(hn:20<=n)(Bt Bs N b:Nat)(v tv:Value)(ws:List fQ)(cs:List dv)(us:List Value)(px:ws.length<=1000)(hlen:cs.length<=1000)(hpl:∀ c∈cs,c.kind=3->∃ i d,kp cs 2 c.tx=some i/\cs[i]?=some d/\d.writes.length<=1000)(w:World)
  (ht:w.cell? ⟨Bt,0,none⟩=some (.pointer (some ⟨b,0,none⟩))) (hb:w.cell? ⟨b,2,none⟩=some tv) (hbN:b<N) (oS:fV w N 3 Ca tv ws) (hc:w.cell? ⟨Bs,0,none⟩=some v) (hv:sL w N v cs us) (hN:N<=w.heap.size) :
  Iter n Tryz.prog 116 #[.pointer (some ⟨Bt,0,none⟩),.pointer (some ⟨Bs,0,none⟩)] vW (fun k=>k<N\/k=Bs\/k=Bt) (ws.reverse++pQ cs) w:=fun l X J Jx W hW hX hJ Ff hY h0=>by
 have n1:1<=n:=by omega
 have n2:1<=n - 1 - 1:=by omega
 have n3:1<=n - 1 - 1 - 1 - 1:=by omega
 have hc':=hW.cell hc id;have ht':=hW.cell ht id;have hb':=hW.cell hb id;have AJ:=oS.mod hW (fun _ _=>id) (fun _ _ e=>e);have hv':=hv.mod hW (fun _ _=>id);have hN':N<=W.heap.size:=aJ hN hW.size;have Aa:(cs.zip us).length=cs.length:=by rw [cD,hv.1];omega
 obtain ⟨va,vc,lI,-,-⟩:=hv'.2.1.slice;rw [Aa] at lI;obtain ⟨ta,tc,Bz,-,-⟩:=AJ.slice;subst lI Bz;clear Aa;obtain ⟨w1,hw1⟩:∃ z,z=W.alloc (.cells #[.func (.yield l) #[] #[]] 178):=⟨_,rfl⟩;have dh:Mod dZ W w1:=by rw [hw1];exact (Mod.refl _ W).alloc _
 have hz1:w1.heap.size=W.heap.size+1:=by rw [hw1,World.size_alloc]
 have hb1:dg w1 W.heap.size [.func (.yield l) #[] #[]] 178:=by rw [hw1];exact dg.new W _ _
 have c1:(W.alloc (.cells #[.func (.yield l) #[] #[]] 178)).cell? ⟨Bt,0,none⟩=some (.pointer (some ⟨b,0,none⟩)):=by rw [<-hw1];exact dh.cell ht' id
 have c2:(W.alloc (.cells #[.func (.yield l) #[] #[]] 178)).cell? ⟨b,2,none⟩=some (.slice ta ws.length tc):=by rw [<-hw1];exact dh.cell hb' id
 have c2z:=World.block_lt_of_cell? _ _ c2;refine callsIn_of_wp_marks Tryz.func116 rfl trivial ?_ rfl;simp only [Tryz.ntmps116,bC,aW,az,Nat.reduceAdd,Nat.reduceSub,bb,ba,bp,bd,aY,bF];gi_wp2_with (refine ⟨trivial,?_⟩;gi_at_call 117;refine (yIm none (n - 1) _ _ _ _).mono ?_;rintro e w' ⟨rfl,rfl⟩);rw [<-hw1];obtain ⟨w2,hw2⟩:∃ z,z=w1.alloc (.cells #[.slice ta ws.length tc] 63):=⟨_,rfl⟩;have xp:Mod dZ w1 w2:=by rw [hw2];exact (Mod.refl _ w1).alloc _
 have hm2:Mod dZ W w2:=dh.trans xp;have hz2:w2.heap.size=W.heap.size+2:=by rw [hw2,World.size_alloc,hz1]
 have hb2:dg w2 (W.heap.size+1) [.slice ta ws.length tc] 63:=by rw [<-hz1,hw2];exact dg.new w1 _ _
 have Sm:=(hb1.mod xp id).cell 0 rfl;have cs2:=hm2.cell hc' id;rw [<-hw2];have hv2:=hv'.mod hm2 (fun _ _=>id);have Hu:=AJ.mod hm2 (fun _ _=>id) (fun _ _ e=>e);have YP:∀ k,k<N->¬ X k:=fun k hk e=>(hX _ e).2 (.inl hk);have YQ:¬ X Bs:=fun e=>(hX _ e).2 (.inr (.inl rfl));have yD:∀ k,X k->k<w2.heap.size/\¬(k=W.heap.size+1\/(ws≠[]/\(Value.slice ta ws.length tc).ownBlock=some k)):=fun k hk=>by
  have:=hX k hk;refine ⟨by omega,fun e=>?_⟩;rcases e with e | ⟨e1,e2⟩
  ·omega
  ·exact this.2 (.inl (Hu.blk e1 e2))
 have Wk:w2.heap.size<=W.heap.size+2:=by omega
 have Wj:W.heap.size+2<=w2.heap.size:=by omega
 clear hw1 hw2 hz1 hz2 c1 c2 c2z;refine RH (gf:=157) (lb:=#[.pointer (some ⟨W.heap.size+1,0,none⟩)]) rfl (enters_of Tryz.func157 (by kernel_rfl) rfl)
  (zXx (n - 1) (W.heap.size+1) (.slice ta ws.length tc) ws (by omega) w2 (hb2.cell 0 rfl) (Hu.wide (by omega))) (fun _=>rfl) X yD
  (fun k e=>by
   rcases e with e | ⟨e1,e2⟩
   ·omega
   ·have:=Hu.blk e1 e2;omega)
  (fun pre Wc=>J (pre.map Prod.fst) Wc/\Mod X w2 Wc) (fun c Wc=>c=.ret/\Jx Wc)
  (fun s A B hm hs hj=>⟨(hJ.mono (by omega)) _ A B hm hs hj.1,hj.2.since hm (aF _)⟩) (fun s A B hm hs hj=>⟨hj.1,(Ff.mono (by omega)) () A B hm hs hj.2⟩)
  ⟨(hJ.mono (N':=W.heap.size) (aF _)) [] W w2 (hm2.mono (fun _ _ e=>e.elim)) (aF _) h0,Mod.refl _ _⟩ ?round ?done ?stop
 case round=>
  rintro pre ⟨p,j⟩ rest Wq hx ⟨hJq,hMq⟩ hsz;have tM:ws.reverse++pQ cs=pre.map Prod.fst++p :: (rest.map Prod.fst++pQ cs):=by
   have e:ws.reverse=pre.map Prod.fst++p :: rest.map Prod.fst:=by
    have:=ai (List.map Prod.fst) hx;rw [dD,dF] at this;rw [this];simp
   rw [e];simp
  obtain ⟨key,val,gone⟩:=p;dsimp only [Aw]
  gi_wp2
  refine ⟨(Mod.refl _ Wq).alloc _,?_⟩;rintro We hme ⟨r2,hr2⟩ ⟨PJ,Fa⟩;obtain ⟨fn,tmps,assign,body,hy,hR⟩:=hY _ _ _ We tM PJ;dsimp only [vW] at hy;have sH:dg We Wq.heap.size [.string key,.string val,.bool gone] 68:=(dg.new Wq _ _).mod hme (by simp only [eA];omega);obtain ⟨Bq,zC⟩:∃ z,z=Wq.heap.size:=⟨_,rfl⟩;rw [<-zC] at sH ⊢;have p0:=sH.cell 0 rfl;have p1:=sH.cell 1 rfl;have p2:=sH.cell 2 rfl;have bye:=Fa.cell Sm (fun e=>absurd (hX _ e).1 (cX _));clear tM hx hme zC
  gi_wp2
  refine (UY hR).mono ?_;rintro e W5 ⟨eP,⟨rfl,vR⟩ | ⟨rfl,vR⟩⟩
  ·gi_wp2
   refine ⟨eP,?_,Fa.trans eP⟩;rw [ay];exact vR
  ·gi_wp2
   exact ⟨eP,rfl,vR⟩
 case done=>
  rintro W3 dy hK3 ⟨hJ3,-⟩;rw [dD,dF] at hJ3;have cs3:=dy.cell cs2 YQ;have hv3:=hv2.mod dy YP;have by3:=dy.cell Sm (fun e=>absurd (hX _ e).1 (cX _));have z3:=dy.size;gi_wp2_with (refine ⟨trivial,?_⟩;gi_at_call 118;refine (yDp (n - 1) _ _ _ _).mono ?_;rintro e w' ⟨rfl,rfl⟩);obtain ⟨w4,hw4⟩:∃ z,z=W3.alloc (.cells #[.slice va cs.length vc] 62):=⟨_,rfl⟩;have gR:Mod dZ W3 w4:=by rw [hw4];exact (Mod.refl _ W3).alloc _
  have z4:w4.heap.size=W3.heap.size+1:=by rw [hw4,World.size_alloc]
  have hb4:dg w4 W3.heap.size [.slice va cs.length vc] 62:=by rw [hw4];exact dg.new W3 _ _
  rw [<-hw4];have by4:=gR.cell by3 id;have z4a:W3.heap.size+1<=w4.heap.size:=by omega
  have z4b:w4.heap.size<=W3.heap.size+1:=by omega
  have hK4:w4.heap[w2.heap.size]?=some (.deferred (some [])):=(gR.block _ (aG.1 hK3).1 id).trans hK3;clear hw4 z4;have hv4:=hv3.mod gR (fun _ _=>id);have hX4:∀ k,X k->k<w4.heap.size/\¬(k<N\/k=W3.heap.size):=fun k hk=>by
   have:=hX k hk;exact ⟨by omega,fun e=>e.elim (fun e=>this.2 (.inl e)) (fun e=>by omega)⟩
  refine RH (gf:=158) (lb:=#[.pointer (some ⟨W3.heap.size,0,none⟩)]) rfl (enters_of Tryz.func158 (by kernel_rfl) rfl)
   (zVf (n - 1) (by omega) W3.heap.size N (.slice va cs.length vc) cs us hlen hpl w4 (hb4.cell 0 rfl) hv4 (by omega)) (fun _=>rfl) X hX4
   (fun k e=>by omega)
   (fun pre Wc=>J (ws.reverse++pre) Wc/\Mod X w4 Wc) (fun c Wc=>c=.ret/\Jx Wc)
   (fun s A B hm hs hj=>⟨(hJ.mono (by omega)) _ A B hm hs hj.1,hj.2.since hm (aF _)⟩) (fun s A B hm hs hj=>⟨hj.1,(Ff.mono (by omega)) () A B hm hs hj.2⟩)
   ⟨by rw [cW];exact hJ _ W3 w4 (gR.mono (fun _ _ e=>e.elim)) (by omega) hJ3,Mod.refl _ _⟩ ?round2 ?done2 ?stop2
  case round2=>
   rintro pre p rest Wq hx ⟨hJq,hMq⟩ hsz;have tM:ws.reverse++pQ cs=(ws.reverse++pre)++p :: rest:=by rw [hx];simp
   obtain ⟨key,val,gone⟩:=p;dsimp only [vW]
   gi_wp2
   refine ⟨(Mod.refl _ Wq).alloc _,?_⟩;rintro We hme ⟨r2,hr2⟩ ⟨PJ,Fa⟩;obtain ⟨fn,tmps,assign,body,hy,hR⟩:=hY _ _ _ We tM PJ;dsimp only [vW] at hy;have sH:dg We Wq.heap.size [.string key,.string val,.bool gone] 68:=(dg.new Wq _ _).mod hme (by simp only [eA];omega);obtain ⟨Bq,zC⟩:∃ z,z=Wq.heap.size:=⟨_,rfl⟩;rw [<-zC] at sH ⊢;have p0:=sH.cell 0 rfl;have p1:=sH.cell 1 rfl;have p2:=sH.cell 2 rfl;have bye:=Fa.cell by4 (fun e=>absurd (hX _ e).1 (cX _));clear tM hx hme zC
   gi_wp2
   refine (UY hR).mono ?_;rintro e W5 ⟨eP,⟨rfl,vR⟩ | ⟨rfl,vR⟩⟩
   ·gi_wp2
    refine ⟨eP,?_,Fa.trans eP⟩;rw [<-aU];exact vR
   ·gi_wp2
    exact ⟨eP,rfl,vR⟩
  case done2=>
   rintro W5 eP pG ⟨vR,-⟩
   gi_wp2
   have Fe:(W5.putObj w4.heap.size (.deferred none)).heap[w2.heap.size]?=some (.deferred (some [])):=by
    rw [World.putObj_heap_other (by omega),eP.block _ (by omega) (fun e=>by have:=(hX _ e).1;omega)];exact hK4
   refine ⟨by simp,.inl ⟨_,_,rfl,run_takeDeferred pG,⟨by simp,.inl ⟨_,_,rfl,run_takeDeferred Fe,?_⟩⟩⟩⟩;have qV:Mod (jN W.heap.size) W5 ((W5.putObj w4.heap.size (.deferred none)).putObj w2.heap.size (.deferred none)):=((Mod.refl _ _).putObj (fun _=>by simp only [jN];omega) _).putObj (fun _=>by simp only [jN];omega) _;have hs5:W.heap.size<=W5.heap.size:=by have:=eP.size;omega
   exact ⟨_,results_none rfl _ _ _,⟨_,rfl⟩,((((hm2.mono (fun _ _ e=>e.elim)).trans dy).trans (gR.mono (fun _ _ e=>e.elim))).trans eP).since qV (aF _),.inl (hJ _ _ _ qV hs5 vR)⟩
  case stop2=>
   rintro c W5 eP pG ⟨rfl,vR⟩
   gi_wp2
   have Fe:(W5.putObj w4.heap.size (.deferred none)).heap[w2.heap.size]?=some (.deferred (some [])):=by
    rw [World.putObj_heap_other (by omega),eP.block _ (by omega) (fun e=>by have:=(hX _ e).1;omega)];exact hK4
   refine ⟨by simp,.inl ⟨_,_,rfl,run_takeDeferred pG,⟨by simp,.inl ⟨_,_,rfl,run_takeDeferred Fe,?_⟩⟩⟩⟩;have qV:Mod (jN W.heap.size) W5 ((W5.putObj w4.heap.size (.deferred none)).putObj w2.heap.size (.deferred none)):=((Mod.refl _ _).putObj (fun _=>by simp only [jN];omega) _).putObj (fun _=>by simp only [jN];omega) _;have hs5:W.heap.size<=W5.heap.size:=by have:=eP.size;omega
   exact ⟨_,results_none rfl _ _ _,⟨_,rfl⟩,((((hm2.mono (fun _ _ e=>e.elim)).trans dy).trans (gR.mono (fun _ _ e=>e.elim))).trans eP).since qV (aF _),.inr (Ff () _ _ qV hs5 vR)⟩
 case stop=>
  rintro c W3 dy hK3 ⟨rfl,LG⟩
  gi_wp2
  refine ⟨by simp,.inl ⟨_,_,rfl,run_takeDeferred hK3,?_⟩⟩;have qV:Mod (jN W.heap.size) W3 (W3.putObj w2.heap.size (.deferred none)):=(Mod.refl _ _).putObj (fun _=>by simp only [jN];omega) _;have hs3:W.heap.size<=W3.heap.size:=aJ hm2.size dy.size;exact ⟨_,results_none rfl _ _ _,⟨_,rfl⟩,((hm2.mono (fun _ _ e=>e.elim)).trans dy).since qV (aF _),.inr (Ff () _ _ qV hs3 LG)⟩
attribute [local go_sem] Oper.semAt_some
def xN(xs:List fQ)(key:ByteArray):ByteArray × Bool:=match xs.find? fun p=>decide (p.key=key) with
 | none=>(ByteArray.empty,false)
 | some p=>if p.gone then (ByteArray.empty,false) else (p.val,true)
theorem yGd{xs:List fQ}{key:ByteArray}(h:∀ p∈xs,p.key≠key):xN xs key=(ByteArray.empty,false):=by
 unfold xN;rw [dA.2 (fun p hp=>by simpa using h p hp)]
theorem yGc{pre rest:List fQ}{p:fQ}{key:ByteArray}(h:∀ p∈pre,p.key≠key)(hp:p.key=key):xN (pre++p :: rest) key=if p.gone then (ByteArray.empty,false) else (p.val,true):=by
 unfold xN;rw [List.find?_append,dA.2 (fun p hp=>by simpa using h p hp),List.find?_cons_of_pos (by simpa using hp)];rfl
theorem yRe(b:Nat)(v tv:Value)(ws:List fQ)(cs:List dv)(us:List Value)(key:ByteArray)(px:ws.length<=1000)(hlen:cs.length<=1000)(hpl:∀ c∈cs,c.kind=3->∃ i d,kp cs 2 c.tx=some i/\cs[i]?=some d/\d.writes.length<=1000)(w:World)
  (hb:w.cell? ⟨b,2,none⟩=some tv) (oS:fV w w.heap.size 3 Ca tv ws) (hv:sL w w.heap.size v cs us) :
  Calls Tryz.prog 39 #[.pointer (some ⟨b,0,none⟩),v,.string key] w fun e w'=>e=.returned (.tuple #[.string (xN (ws.reverse++pQ cs) key).1,.bool (xN (ws.reverse++pQ cs) key).2])/\Mod dZ w w':=by
 obtain ⟨n,hn⟩:∃ n:Nat,40<=n:=⟨40,aF _⟩;have n1:1<=n:=by omega
 refine (callsIn_wide (n:=n)).1 ?_;have Aa:(cs.zip us).length=cs.length:=by rw [cD,hv.1];omega
 obtain ⟨va,vc,lI,-,-⟩:=hv.2.1.slice;rw [Aa] at lI;subst lI;clear Aa;refine callsIn_of_wp_marks Tryz.func39 rfl trivial ?_ rfl;simp only [Tryz.ntmps39,bC,aW,az,Nat.reduceAdd,Nat.reduceSub,bb,ba,bp,bd,aY,bF];gi_wp2_with (refine ⟨trivial,?_⟩;gi_at_call 71;refine (yUp _ _ _ _ _ _).mono ?_;rintro e w' ⟨rfl,rfl⟩);obtain ⟨w1,hw1⟩:∃ z,z=w.alloc (.cells #[.string key] 9):=⟨_,rfl⟩;obtain ⟨w2,hw2⟩:∃ z,z=w1.alloc (.cells #[.string ⟨#[]⟩] 9):=⟨_,rfl⟩;obtain ⟨w3,hw3⟩:∃ z,z=w2.alloc (.cells #[.bool false] 4):=⟨_,rfl⟩;obtain ⟨w4,hw4⟩:∃ z,z=w3.alloc (.cells #[.pointer (some ⟨b,0,none⟩)] 87):=⟨_,rfl⟩;obtain ⟨w5,pB⟩:∃ z,z=w4.alloc (.cells #[.slice va cs.length vc] 62):=⟨_,rfl⟩;have z1:w1.heap.size=w.heap.size+1:=by rw [hw1,World.size_alloc]
 have z2:w2.heap.size=w.heap.size+2:=by rw [hw2,World.size_alloc,z1]
 have z3:w3.heap.size=w.heap.size+3:=by rw [hw3,World.size_alloc,z2]
 have z4:w4.heap.size=w.heap.size+4:=by rw [hw4,World.size_alloc,z3]
 have z5:w5.heap.size=w.heap.size+5:=by rw [pB,World.size_alloc,z4]
 have m1:Mod dZ w w1:=by rw [hw1];exact (Mod.refl _ w).alloc _
 have m2:Mod dZ w1 w2:=by rw [hw2];exact (Mod.refl _ w1).alloc _
 have m3:Mod dZ w2 w3:=by rw [hw3];exact (Mod.refl _ w2).alloc _
 have m4:Mod dZ w3 w4:=by rw [hw4];exact (Mod.refl _ w3).alloc _
 have m5:Mod dZ w4 w5:=by rw [pB];exact (Mod.refl _ w4).alloc _
 have hK:dg w5 w.heap.size [.string key] 9:=by
  have:dg w1 w.heap.size [.string key] 9:=by rw [hw1];exact dg.new w _ _
  exact (((this.mod m2 id).mod m3 id).mod m4 id).mod m5 id
 have h6:dg w5 (w.heap.size+1) [.string ⟨#[]⟩] 9:=by
  have:dg w2 (w.heap.size+1) [.string ⟨#[]⟩] 9:=by rw [<-z1,hw2];exact dg.new w1 _ _
  exact ((this.mod m3 id).mod m4 id).mod m5 id
 have h7:dg w5 (w.heap.size+2) [.bool false] 4:=by
  have:dg w3 (w.heap.size+2) [.bool false] 4:=by rw [<-z2,hw3];exact dg.new w2 _ _
  exact (this.mod m4 id).mod m5 id
 have h8:dg w5 (w.heap.size+3) [.pointer (some ⟨b,0,none⟩)] 87:=by
  have:dg w4 (w.heap.size+3) [.pointer (some ⟨b,0,none⟩)] 87:=by rw [<-z3,hw4];exact dg.new w3 _ _
  exact this.mod m5 id
 have h9:dg w5 (w.heap.size+4) [.slice va cs.length vc] 62:=by rw [<-z4,pB];exact dg.new w4 _ _
 have hm:Mod dZ w w5:=(((m1.trans m2).trans m3).trans m4).trans m5;rw [<-hw1,<-hw2,<-hw3,<-hw4,<-pB];have Dd:=World.block_lt_of_cell? w _ hb;dsimp only at Dd;have za:w5.heap.size<=w.heap.size+5:=by omega
 have zb:w.heap.size+5<=w5.heap.size:=by omega
 clear hw1 hw2 hw3 hw4 pB z1 z2 z3 z4 z5 m1 m2 m3 m4 m5;have nR:=hm.cell hb id;have XA:=oS.mod hm (fun _ _=>id) (fun _ _ e=>e);have Ww:=hv.mod hm (fun _ _=>id);have jx:∀ (A:World) (x y:Value),Mod (fun k=>k=w.heap.size+1\/k=w.heap.size+2) A ((A.setCell ⟨w.heap.size+1,0,none⟩ x).setCell ⟨w.heap.size+1+1,0,none⟩ y):=fun A x y=>
  ((Mod.refl _ A).setCell (p:=⟨w.heap.size+1,0,none⟩) (fun _=>.inl rfl) x).setCell (p:=⟨w.heap.size+1+1,0,none⟩) (fun _=>.inr rfl) y
 have Yv:∀ {A:World} {u:Value} (h:dg A (w.heap.size+1) [u] 9) (x y:Value),dg ((A.setCell ⟨w.heap.size+1,0,none⟩ x).setCell ⟨w.heap.size+1+1,0,none⟩ y) (w.heap.size+1) [x] 9:=fun {A u} h x y=>
  (h.set 0 x).mod (Mod.dt (w.heap.size+1+1) 0 y) (by simp only [eA];omega)
 have Yu:∀ {A:World} {u:Value} (h:dg A (w.heap.size+2) [u] 4) (x y:Value),dg ((A.setCell ⟨w.heap.size+1,0,none⟩ x).setCell ⟨w.heap.size+1+1,0,none⟩ y) (w.heap.size+2) [y] 4:=fun {A u} h x y=>
  (h.mod (Mod.dt (w.heap.size+1) 0 x) (by simp only [eA];omega)).set 0 y
 obtain ⟨Dv,Df⟩:∃ z,z=xN (ws.reverse++pQ cs) key:=⟨_,rfl⟩;refine RH (gf:=116) (lb:=#[.pointer (some ⟨w.heap.size+3,0,none⟩),.pointer (some ⟨w.heap.size+4,0,none⟩)]) rfl (enters_of Tryz.func116 (by kernel_rfl) rfl)
  (yJm (n - 1) (by omega) (w.heap.size+3) (w.heap.size+4) w.heap.size b (.slice va cs.length vc) tv ws cs us px hlen hpl w5 (h8.cell 0 rfl) nR Dd XA (h9.cell 0 rfl) Ww hm.size) (fun _=>rfl)
  (fun k=>k=w.heap.size+1\/k=w.heap.size+2) (fun k e=>by omega) (fun k e=>by omega)
  (fun pre Wc=>(∀ p∈pre,p.key≠key)/\dg Wc w.heap.size [.string key] 9/\dg Wc (w.heap.size+1) [.string ⟨#[]⟩] 9/\dg Wc (w.heap.size+2) [.bool false] 4)
  (fun c Wc=>c=.ret/\dg Wc (w.heap.size+1) [.string Dv.1] 9/\dg Wc (w.heap.size+2) [.bool Dv.2] 4)
  (fun s A B hmm hs hj=>⟨hj.1,hj.2.1.mod hmm (by simp only [jN];omega),hj.2.2.1.mod hmm (by simp only [jN];omega),hj.2.2.2.mod hmm (by simp only [jN];omega)⟩)
  (fun s A B hmm hs hj=>⟨hj.1,hj.2.1.mod hmm (by simp only [jN];omega),hj.2.2.mod hmm (by simp only [jN];omega)⟩)
  ⟨by simp,hK,h6,h7⟩ ?round ?done ?stop
 case round=>
  rintro pre p rest Wq hx ⟨hpre,Sb,LK,LJ⟩ hsz;obtain ⟨pk,pv,gone⟩:=p;dsimp only [vW]
  gi_wp2
  refine ⟨(Mod.refl _ Wq).alloc _,?_⟩;rintro We hme ⟨r2,hr2⟩ ⟨-,Fc,PQ,PO⟩;have sH:dg We Wq.heap.size [.string pk,.string pv,.bool gone] 68:=(dg.new Wq _ _).mod hme (by simp only [eA];omega);obtain ⟨Bq,zC⟩:∃ z,z=Wq.heap.size:=⟨_,rfl⟩;rw [<-zC] at sH ⊢;have p0:=sH.cell 0 rfl;have p1:=sH.cell 1 rfl;have p2:=sH.cell 2 rfl;have k0:=Fc.cell 0 rfl;have f6:=PQ.frozen 0;have f7:=PO.frozen 0;have c6:=PQ.cell 0 rfl;have c7:=PO.cell 0 rfl;by_cases hk:pk=key
  ·subst hk;have HA:Hid (Dv=if gone then (ByteArray.empty,false) else (pv,true)):=by
    unfold Hid;rw [Df,hx,yGc hpre rfl]
   clear Df hx zC
   cases gone with
   | true=>
    gi_wp2
    have e6:Dv.1=⟨#[]⟩:=by rw [HA.out];rfl
    have e7:Dv.2=false:=by rw [HA.out];rfl
    exact ⟨jx We _ _,rfl,by rw [e6];exact Yv PQ _ _,by rw [e7];exact Yu PO _ _⟩
   | false=>
    gi_wp2
    have e6:Dv.1=pv:=by rw [HA.out];rfl
    have e7:Dv.2=true:=by rw [HA.out];rfl
    exact ⟨jx We _ _,rfl,by rw [e6];exact Yv PQ _ _,by rw [e7];exact Yu PO _ _⟩
  ·have hkb:(pk.toList == key.toList)=false:=by
    rw [bc];intro q;rw [ByteArray.toList_eq,ByteArray.toList_eq] at q;exact hk (RN q)
   clear Df hx zC
   gi_wp2
   refine ⟨Mod.refl _ _,fun p hp=>?_,Fc,PQ,PO⟩;rcases aN.1 hp with hp | hp
   ·exact hpre p hp
   ·rw [bU] at hp;subst hp;exact hk
 case done=>
  rintro W3 dy hK3 ⟨hpre,Sb,LK,LJ⟩;have f6:=LK.frozen 0;have f7:=LJ.frozen 0;have c6:=LK.cell 0 rfl;have c7:=LJ.cell 0 rfl
  gi_wp2
  have ib:=jx W3 (.string ⟨#[]⟩) (.bool false);have hK4:=ib.block w5.heap.size (aG.1 hK3).1 (by omega);rw [hK3] at hK4;refine ⟨by simp,.inl ⟨_,_,rfl,run_takeDeferred hK4,?_⟩⟩;obtain ⟨W4,hW4⟩:∃ z,z=(W3.setCell ⟨w.heap.size+1,0,none⟩ (.string ⟨#[]⟩)).setCell ⟨w.heap.size+1+1,0,none⟩ (.bool false):=⟨_,rfl⟩;have h6s:=Yv LK (.string ⟨#[]⟩) (.bool false);have h7s:=Yu LJ (.string ⟨#[]⟩) (.bool false);rw [<-hW4] at ib h6s h7s ⊢;have qV:Mod (jN w5.heap.size) W4 (W4.putObj w5.heap.size (.deferred none)):=(Mod.refl _ _).putObj (fun _=>by simp only [jN];omega) _;have c6:=(h6s.mod qV (by simp only [jN];omega)).cell 0 rfl;have c7:=(h7s.mod qV (by simp only [jN];omega)).cell 0 rfl;have e:=yGd hpre;refine ⟨.tuple #[.string ⟨#[]⟩,.bool false],?_,by rw [e];rfl,?_⟩
  ·simp [results,Tryz.f39,go_sem,c6,c7]
  ·exact ((hm.mono (fun _ _ e=>e.elim)).trans' ((dy.trans ib).since qV (by have:=dy.size;omega)) (fun i hi e=>by omega))
 case stop=>
  rintro c W3 dy hK3 ⟨rfl,LK,LJ⟩
  gi_wp2
  refine ⟨by simp,.inl ⟨_,_,rfl,run_takeDeferred hK3,?_⟩⟩;have qV:Mod (jN w5.heap.size) W3 (W3.putObj w5.heap.size (.deferred none)):=(Mod.refl _ _).putObj (fun _=>by simp only [jN];omega) _;have c6:=(LK.mod qV (by simp only [jN];omega)).cell 0 rfl;have c7:=(LJ.mod qV (by simp only [jN];omega)).cell 0 rfl;refine ⟨.tuple #[.string Dv.1,.bool Dv.2],?_,by rw [Df],?_⟩
  ·simp [results,Tryz.f39,go_sem,c6,c7]
  ·exact ((hm.mono (fun _ _ e=>e.elim)).trans' (dy.since qV (aF _)) (fun i hi e=>by omega))
theorem Ut(s:dX)(id:Int)(key:ByteArray)(mode:Int):(jT s id key mode).1.lines=s.lines:=by
 unfold jT;simp only;split
 ·have:=(gG.fc (oO (ix s id key mode).1 id key) (ix s id key mode).1).l;exact this
 ·rfl
theorem yFn(s:dX)(id:Int)(key:ByteArray)(mode:Int):(gV s id key mode).1.lines=s.lines:=by
 unfold gV;simp only;split
 ·exact Ut s id key mode
 ·split
  ·exact Ut s id key mode
  ·exact ((gG.fc _ _).l).trans (Ut s id key mode)
theorem gZ.WW{w:World}{L:Lo}{v:Value}{cs:List dv}(h:gZ w L v cs)(hL:L.n<=w.heap.size):∃ us,sL w w.heap.size v cs us/\∀ c∈cs,c.writes.length<=40:=by
 have h0:=h.mB;obtain ⟨us,h1,h2,h3,h4⟩:=h;refine ⟨us,⟨h1,?_,fun i c u hi hu=>?_⟩,fun c hc=>(h4 c hc).2⟩
 ·obtain ⟨xZ,⟨k1,k2⟩,k3⟩:=gZ.mB (L:=L) ⟨us,h1,h2,h3,h4⟩;have hz:(cs.zip us).length=cs.length:=by rw [cD];omega
  rcases h2.2 with ⟨rfl,hn⟩ | ⟨g,cap,cur,rfl,q1,q2,q3,q4,q5,q6⟩
  ·have hc:cs=[]:=aR hn;subst hc;exact fV.nil _ _ _ _
  ·have hcl:=h2.cells (g:=g) rfl;have hgl:g<w.heap.size:=(aG.1 q2).1;refine ⟨_,cap,by rw [hz],by rw [hz];exact q3,q4,.inr ⟨g,0,rfl,by omega,fun i d hi=>⟨wD d.1 d.2,rfl,rfl,fun j x hx=>?_⟩⟩⟩;obtain ⟨e1,e2⟩:=Qp hi;have:=hcl _ _ (Rj cs us i d.1 d.2 h1 e1 e2 j x hx);rw [Go.WideShapes.add_plain,aX] at this;rw [aX];exact this
 ·obtain ⟨a,cap,e1,e2,e3,e4⟩:=h3 i c u hi hu;refine ⟨a,cap,e1,e2,e3,?_⟩;rcases e4 with e4 | ⟨b,off,e5,e6,e7⟩
  ·exact .inl e4
  ·refine .inr ⟨b,off,e5,?_,fun j p hp=>⟨[.string p.key,.string p.val,.bool p.gone],rfl,rfl,fun k x hx=>?_⟩⟩
   ·rcases e6 with e6 | ⟨⟨cur,fr,e6⟩,_⟩
    ·omega
    ·exact (aG.1 e6).1
   ·obtain ⟨f0,f1,f2⟩:=e7 j p hp
    match k,hx with
    | 0,hx=>simp at hx;subst hx;exact f0
    | 1,hx=>simp at hx;subst hx;exact f1
    | 2,hx=>simp at hx;subst hx;exact f2
    | (k+3),hx=>simp at hx
def fM(s:dX)(key:ByteArray):List dv:=((s.line (ee s key)).nodes.getD 0 ⟨0,0,[],[],0⟩).log
def BY(w:World)(n c g:Nat)(y:dY)(r:dX × ByteArray × Bool × Int)(e:Ending)(w':World):Prop:=e=.returned (.tuple #[.string r.2.1,.bool r.2.2.1,je r.2.2.2])/\∃ y',dx w' n c g y' r.1/\eL w y w' y'
theorem yOu(n c g:Nat)(y:dY)(s:dX)(id:Int)(key:ByteArray)(w:World)(h:dx w n c g y s)(hok:Mg w n c s)(hk:gA key)(IQ:(fM s key).length<=1000/\∀ c∈fM s key,c.kind=3->(kp (fM s key) 2 c.tx).isSome=true) :
  Calls Tryz.prog 14 #[.pointer (some ⟨g,0,none⟩),.int .i64 id,.string key] w (BY w n (c+2) g y (fH s id key)):=by
 have hmk:=Jq;have hcc:=hok.c;have EE:=dV (yIi n c g y s id key w h hok.sh hk);have CT:Hid (fH s id key=if nu s id key≠0 then (s,ByteArray.empty,false,nu s id key) else if (gV s id key 1).2≠0 then ((gV s id key 1).1,ByteArray.empty,false,(gV s id key 1).2) else ((gV s id key 1).1,(xN (((gV s id key 1).1.tx id.toNat).writes.reverse++pQ (fM s key)) key).1,(xN (((gV s id key 1).1.tx id.toNat).writes.reverse++pQ (fM s key)) key).2,0)):=rfl;have HH:=dV h;have od:=dV hok;have sP:=dV IQ;clear h hok IQ;go_enter Tryz.func14,Tryz.ntmps14;go_wp2_with fail;refine EE.out.mono ?_;rintro e w2 ⟨hC,hm2⟩;rcases hC with ⟨hc0,rfl⟩ | ⟨hc0,b,d,hb,hd,hlv,rfl⟩
 ·rw [mS hc0];have HF:Hid (BY w n (c+2) g y (fH s id key) (.returned (.tuple #[.string ⟨#[]⟩,.bool false,.iface 90 (.int .i64 (nu s id key))])) w2):=by
   unfold Hid;rw [CT.out,aP hc0];exact ⟨by rw [mS hc0];rfl,y,(HH.out.quiet hm2).su (by omega),eL.quiet hm2⟩
  clear hc0;go_wp2_with fail;go_ret3;exact HF.out
 ·obtain ⟨ho,IT,FO⟩:=ph hc0;obtain ⟨i,rfl,hi1,hi2,hst⟩:=pO ho;have BG:Hid (fH s i key=if (gV s i key 1).2≠0 then ((gV s i key 1).1,ByteArray.empty,false,(gV s i key 1).2) else ((gV s i key 1).1,(xN (((gV s i key 1).1.tx i).writes.reverse++pQ (fM s key)) key).1,(xN (((gV s i key 1).1.tx i).writes.reverse++pQ (fM s key)) key).2,0)):=by
   unfold Hid;rw [CT.out,aK (fun q=>q hc0),aV]
  have qt:=HH.out.quiet hm2;have zI:=dV (yCl n c g y s i key 1 w2 qt ⟨od.out.sh,od.out.ki,od.out.et.mod hm2,od.out.n,hcc⟩ hi1 hi2 IT (.inl rfl));have gE:=dV hm2;have HB:=dV hb;have HD:=dV hd;clear hc0 hb hd hlv EE CT hm2 qt ho FO;go_wp2_with fail;refine zI.out.mono ?_;rintro e w5 ⟨rfl,y5,kt,pG⟩;have Ar:=(eL.quiet gE.out).trans pG;obtain ⟨nM,yy⟩:=zUa s i key 1 od.out.sh.tw;have htl:=od.out.sh.tl;by_cases he:(gV s i key 1).2=0
  ·rw [he,ou];have hle:i<=(gV s i key 1).1.dW.length:=by rw [nM];exact hi2
   obtain ⟨Gi,xk,Am⟩:=kt.xc (id:=i) hi1 hle;have Wt:=GQ yy i;have nR:y5.gF[ee s key]?=some b:=by rw [Ar.l];exact HB.out
   have SQ:(y5.fL b)[0]?=some d:=by rw [Ar.n];exact HD.out
   have hnd:=kt.mU nR (aC SQ);have jE:(y5.st (gV s i key 1).1 d).log=fM s key:=by
    have hkl:ee s key<(gV s i key 1).1.lines.length:=by
     have:=(aB.1 nR).1;rw [kt.iQ] at this;exact this
    have CC:=kt.line _ _ _ nR (aA hkl);have hnl:0<((gV s i key 1).1.lines[ee s key]).nodes.length:=by
     have:=(aB.1 SQ).1;rw [CC.len] at this;exact this
    rw [kt.kW nR (aA hkl) SQ (aA hnl)];unfold fM dX.line;rw [<-yFn s i key 1];simp only [aI,aA hkl,aA hnl,dL]
   have ku:=dV (yg n (c+2) g y5 _ i Gi w5 kt hi1 (by omega) xk);have LS:=dV (Lq (y5.lo n) d (y5.kK d) (y5.kL d) _ w5 hnd);rw [jE] at LS;have HF:Hid (∀ w6 r,Mod dZ w5 w6->r=xN (((gV s i key 1).1.tx i).writes.reverse++pQ (fM s key)) key->BY w n (c+2) g y (fH s i key) (.returned (.tuple #[.string r.1,.bool r.2,.nilIface])) w6):=fun w6 r hm hr=>by
    subst hr;rw [BG.out,aK (fun q=>q he)];exact ⟨by rw [ou],y5,kt.quiet hm,Ar.trans (eL.quiet hm)⟩
   have HT:=dV Am;have Sz:Hid (n<=w5.heap.size):=aJ kt.low (Nat.le_of_lt kt.blk.lt);have hc2:=Am.blk.cell 2 rfl;clear kt pG Am xk Ar nM yy he zI nR SQ hnd jE hle;go_wp2_with (first
    | (go_at_call 34;refine ku.out.mono ?_;rintro e w6 ⟨rfl,rfl⟩)
    | (go_at_call 40;refine LS.out.mono ?_;rintro e w6 ⟨lv,rfl,Ns,Xw,fs⟩;obtain ⟨la,lc,DU⟩:=Ns.slice;subst DU))
   obtain ⟨us,DU,NW⟩:=Ns.WW (aJ Sz.out fs.size);have pX:=dV (yRe Gi _ _ ((gV s i key 1).1.tx i).writes (fM s key) us key (by omega) sP.out.1 (fun c hc h3=>by
    have:=sP.out.2 c hc h3;obtain ⟨j,hj⟩:=bD.1 this;have hjl:j<(fM s key).length:=by
     unfold kp at hj;exact (cA.1 hj).1
    exact ⟨j,_,hj,aA hjl,aJ (NW _ (List.getElem_mem hjl)) (by omega)⟩) w6 (fs.cell hc2 id) (HT.out.mod fs id (fun _ _ e=>e)).mB DU)
   obtain ⟨r,hr⟩:∃ z,z=xN (((gV s i key 1).1.tx i).writes.reverse++pQ (fM s key)) key:=⟨_,rfl⟩;rw [<-hr] at pX;have HG:=dV (fun w7 (iO:Mod dZ w6 w7)=>HF.out w7 r (fs.trans iO) hr);clear hr Ns Xw fs DU NW HF HT Sz hc2 LS ku;refine pX.out.mono ?_;rintro e w7 ⟨rfl,iO⟩;have HG2:=dV (HG.out w7 iO);clear HG iO pX;go_wp2_with fail;go_ret3;exact HG2.out
  ·rw [mS he];have HF:Hid (BY w n (c+2) g y (fH s i key) (.returned (.tuple #[.string ⟨#[]⟩,.bool false,.iface 90 (.int .i64 (gV s i key 1).2)])) w5):=by
    unfold Hid;rw [BG.out,aP he];exact ⟨by rw [mS he];rfl,y5,kt,Ar⟩
   clear kt pG Ar he zI;go_wp2_with fail;go_ret3;exact HF.out
structure VD where
 text:ByteArray
 there:Bool
 deriving DecidableEq
def xP:VD:=⟨ByteArray.empty,false⟩
abbrev gK:=ByteArray->VD
def nG(s:gK)(k:ByteArray)(v:VD):gK:=fun x=>if x=k then v else s x
structure fg where
 kind:Int
 key:ByteArray
 value:ByteArray
 found:Bool
instance:Inhabited fg:=⟨⟨0,ByteArray.empty,ByteArray.empty,false⟩⟩
structure eM where
 ops:List fg
 eF:Int
 fI:Int
instance:Inhabited eM:=⟨⟨[],0,0⟩⟩
def yb(o:fg):VD:=if o.found then ⟨o.value,true⟩ else xP
def ir(s:gK)(o:fg):Option (gK × List (ByteArray × VD)):=
 if o.kind=1 then (if s o.key=yb o then some (s,[]) else none)
 else if o.kind=2 then some (nG s o.key ⟨o.value,true⟩,[(o.key,s o.key)])
 else if o.kind=3 then some (nG s o.key xP,[(o.key,s o.key)])
 else some (s,[])
def gh:gK->List fg->Option (gK × List (ByteArray × VD))
 | s,[]=>some (s,[])
 | s,o :: os=>match ir s o with
  | none=>none
  | some (s1,u)=>match gh s1 os with
   | none=>none
   | some (s2,us)=>some (s2,u++us)
theorem UJ:∀ (os:List fg) (s s1:gK) (us:List (ByteArray × VD)) (o:fg),gh s os=some (s1,us)->gh s (os++[o])=(ir s1 o).map (fun r=>(r.1,us++r.2))
 | [],s,s1,us,o,h=>by
  simp [gh] at h;obtain ⟨rfl,rfl⟩:=h;rw [aY,gh]
  cases ir s o with
  | none=>rfl
  | some r=>simp [gh]
 | p :: os,s,s1,us,o,h=>by
  rw [gh] at h;rw [bF,gh]
  cases hp:ir s p with
  | none=>rw [hp] at h;cases h
  | some r=>
   rw [hp] at h;simp only at h ⊢
   cases hq:gh r.1 os with
   | none=>rw [hq] at h;cases h
   | some t=>
    rw [hq] at h;simp at h;obtain ⟨rfl,rfl⟩:=h;rw [UJ os r.1 t.1 t.2 o hq]
    cases ir t.1 o with
    | none=>rfl
    | some x=>simp
theorem zXv:∀ (os:List fg) (s s1:gK) (us:List (ByteArray × VD)) (k:Nat),gh s os=some (s1,us)->∃ s2 vs,gh s (os.take k)=some (s2,vs)
 | [],s,s1,us,k,h=>⟨s,[],by simp [gh]⟩
 | p :: os,s,s1,us,0,h=>⟨s,[],by simp [gh]⟩
 | p :: os,s,s1,us,k+1,h=>by
  rw [gh] at h;rw [aw,gh]
  cases hp:ir s p with
  | none=>rw [hp] at h;cases h
  | some r=>
   rw [hp] at h;simp only at h ⊢
   cases hq:gh r.1 os with
   | none=>rw [hq] at h;cases h
   | some t=>
    obtain ⟨s2,vs,e⟩:=zXv os r.1 t.1 t.2 k hq;rw [e];exact ⟨_,_,rfl⟩
theorem RB{a b:ByteArray}(h:a.data.toList=b.data.toList):a=b:=by
 have:a.data=b.data:=Array.toList_inj.1 h;exact ByteArray.ext this
theorem DF:Keyed Tryz.prog 9:=string_keyed Tryz.underlying9
def opR(o:fg)(cs:List Value):Prop:=cs=[.int .i64 o.kind,.string o.key,.string o.value,.bool o.found]/\o.key.size<=maxLen/\o.value.size<=maxLen
def nV(w:World)(L:Nat)(v:Value)(os:List fg):Prop:=fV w L 4 opR v os
def txR(w:World)(L:Nat)(t:eM)(cs:List Value):Prop:=∃ v,cs=[v,.int .i64 t.eF,.int .i64 t.fI]/\nV w L v t.ops/\gO t.eF/\gO t.fI
def mo(w:World)(L:Nat)(v:Value)(ts:List eM):Prop:=fV w L 3 (txR w L) v ts
theorem nV.mod{G:Nat->Prop}{w w':World}{L:Nat}{v:Value}{os:List fg}(h:nV w L v os)(hm:Mod G w w')(hG:∀ k,k<L->¬ G k):nV w' L v os:=fV.mod h hm hG (fun _ _ h=>h)
theorem mo.mod{G:Nat->Prop}{w w':World}{L:Nat}{v:Value}{ts:List eM}(h:mo w L v ts)(hm:Mod G w w')(hG:∀ k,k<L->¬ G k):mo w' L v ts:=
 fV.mod h hm hG (fun _ _ ⟨v,h1,h2,h3⟩=>⟨v,h1,h2.mod hm hG,h3⟩)
theorem nV.at{w:World}{L:Nat}{a:Option Addr}{n cap:Nat}{os:List fg}(h:nV w L (.slice a n cap) os){i:Nat}{o:fg}(hi:os[i]?=some o) :
  ∃ b off,a=some ⟨b,off,none⟩/\b<L/\(o.key.size<=maxLen/\o.value.size<=maxLen)/\w.cell? ⟨b,off+i*4,none⟩=some (.int .i64 o.kind)/\w.cell? ⟨b,off+i*4+1,none⟩=some (.string o.key)/\w.cell? ⟨b,off+i*4+2,none⟩=some (.string o.value)/\w.cell? ⟨b,off+i*4+3,none⟩=some (.bool o.found):=by
 obtain ⟨b,off,cs,h1,h2,⟨rfl,h3⟩,_,h5⟩:=fV.at h hi;exact ⟨b,off,h1,h2,h3,by have:=h5 0 _ rfl;simpa using this,h5 1 _ rfl,h5 2 _ rfl,h5 3 _ rfl⟩
theorem mo.at{w:World}{L:Nat}{a:Option Addr}{n cap:Nat}{ts:List eM}(h:mo w L (.slice a n cap) ts){i:Nat}{t:eM}(hi:ts[i]?=some t) :
  ∃ b off v,a=some ⟨b,off,none⟩/\b<L/\nV w L v t.ops/\(gO t.eF/\gO t.fI)/\w.cell? ⟨b,off+i*3,none⟩=some v/\w.cell? ⟨b,off+i*3+1,none⟩=some (.int .i64 t.eF)/\w.cell? ⟨b,off+i*3+2,none⟩=some (.int .i64 t.fI):=by
 obtain ⟨b,off,cs,h1,h2,⟨v,rfl,h3,h4⟩,_,h5⟩:=fV.at h hi;exact ⟨b,off,v,h1,h2,h3,h4,by have:=h5 0 _ rfl;simpa using this,h5 1 _ rfl,h5 2 _ rfl⟩
end Go.Proofs.YtmaiggbnceejiaaGreatDoor
