import Derived.Test.YtogaigioeohjaaaGreatDoorD40
import Derived.Sort.CutIn
set_option linter.unusedVariables false
set_option maxRecDepth 100000
set_option maxHeartbeats 16000000
namespace Go.Proofs.YtogaigioeohjaaaGreatDoor
open Go.RowKit Go.Lib Go.Maps Go.Shelf
attribute [local go_sem] Oper.semAt_some
theorem zPf{m m' l':Nat}{P:Program}{l:Nat}{f:FuncId}{tmps:Array Value}{assign body:Code}{w:World}{R:Ending->World->Prop}(h:RoundIn Fence.wide m P l f tmps assign body w R):RoundIn (Fence.wide.inRound l') m' P l f tmps assign body w R:=
 ⟨h.1,fun c cs _=>h.2 c cs (fun d e=>nomatch e)⟩
theorem zQu.mono{β:Type}{N N':Nat}{J:β->World->Prop}(h:zQu N J)(hN:N<=N'):zQu N' J:=fun s A B hm hs hj=>h s A B (hm.mono (fun i _ hi=>Nat.le_trans hN hi)) (Nat.le_trans hN hs) hj
def LogV(w:World)(N:Nat)(v:Value)(cs:List CmdD)(us:List Value):Prop:=
 us.length=cs.length/\SlR w N 4 zZt v (cs.zip us)/\∀ (i:Nat) c u,cs[i]?=some c->us[i]?=some u->SlR w N 3 zXn u c.writes
theorem LogV.mod{w w':World}{N:Nat}{v:Value}{cs:List CmdD}{us:List Value}{G:Nat->Prop}(h:LogV w N v cs us)(hm:Mod G w w')(hG:∀ k,k<N->¬ G k):LogV w' N v cs us:=
 ⟨h.1,h.2.1.mod hm hG (fun _ _ e=>e),fun i c u hi hu=>(h.2.2 i c u hi hu).mod hm hG (fun _ _ e=>e)⟩
theorem SlR.wide{α:Type}{w:World}{L sz:Nat}{R:α->List Value->Prop}{v:Value}{ds:List α}(h:SlR w L sz R v ds)(hL:L<=w.heap.size):SlR w w.heap.size sz R v ds:=by
 obtain ⟨a,cap,h1,h2,h3,h4⟩:=h
 exact ⟨a,cap,h1,h2,h3,h4.imp id (fun ⟨b,off,e1,e2,e3⟩=>⟨b,off,e1,by omega,e3⟩)⟩
theorem SlR.blk{α:Type}{w:World}{L sz:Nat}{R:α->List Value->Prop}{v:Value}{ds:List α}(h:SlR w L sz R v ds)(hne:ds≠[]){k:Nat}(hk:v.ownBlock=some k):k<L:=by
 obtain ⟨a,cap,rfl,h2,h3,h4⟩:=h
 rcases h4 with h4 | ⟨b,off,rfl,hb,_⟩
 ·exact absurd h4 hne
 ·cases hk;exact hb
theorem LogV.cmds{w:World}{N:Nat}{v:Value}{cs:List CmdD}{us:List Value}(h:LogV w N v cs us)(hL:N<=w.heap.size):zMu w v cs:=
 ⟨us,⟨h.1,fun u hu=>by
  obtain ⟨i,hi⟩:=List.getElem?_of_mem hu
  have hil:i<cs.length:=by have:=(List.getElem?_eq_some_iff.1 hi).1;have:=h.1;omega
  obtain ⟨a,cap,e,_⟩:=h.2.2 i _ u (List.getElem?_eq_getElem hil) hi
  exact ⟨_,_,_,e⟩⟩,h.2.1.wide hL⟩
def oneC(log:List CmdD)(c:CmdD):List zAz:=if c.kind=3 then ((log.getD ((zDl log 2 c.tx).getD 0) zHu).writes).reverse else []
theorem yPt(log:List CmdD):zBn log=log.reverse.flatMap (oneC log):=by
 unfold zBn
 generalize log.reverse=l
 induction l with
 | nil=>rfl
 | cons c l ih=>
  by_cases h:c.kind=3
  ·rw [List.filter_cons_of_pos (by simpa using h),List.flatMap_cons,List.flatMap_cons,ih]
   simp [oneC,h]
  ·rw [List.filter_cons_of_neg (by simpa using h),List.flatMap_cons,ih]
   simp [oneC,h]
theorem yEx(cs:List CmdD)(us:List Value)(h:us.length=cs.length):((cs.zip us).zipIdx.reverse).flatMap (fun (x:(CmdD × Value) × Nat)=>oneC cs x.1.1)=zBn cs:=by
 rw [yPt]
 have e:((cs.zip us).zipIdx.reverse).map (fun (x:(CmdD × Value) × Nat)=>x.1.1)=cs.reverse:=by
  rw [List.map_reverse]
  congr 1
  have:(cs.zip us).zipIdx.map (fun (x:(CmdD × Value) × Nat)=>x.1.1)=((cs.zip us).zipIdx.map Prod.fst).map Prod.fst:=by rw [List.map_map];rfl
  rw [this,List.zipIdx_map_fst,List.map_fst_zip (by omega)]
 rw [<-e,List.flatMap_map]
def encO(p:zAz):Array Value:=#[.agg #[.string p.key,.string p.val,.bool p.gone]]
theorem zTn(n:Nat)(hn:10<=n)(Bs N:Nat)(v:Value)(cs:List CmdD)(us:List Value)(hlen:cs.length<=1000)(hpl:∀ c∈cs,c.kind=3->∃ i d,zDl cs 2 c.tx=some i/\cs[i]?=some d/\d.writes.length<=1000)(w:World)(hc:w.cell? ⟨Bs,0,none⟩=some v)(hv:LogV w N v cs us)(hN:N<=w.heap.size) :
  Iter n Tryz.prog 246 #[.pointer (some ⟨Bs,0,none⟩)] encO (fun k=>k<N\/k=Bs) (zBn cs) w:=fun l X J Jx W hW hX hJ hJx hY h0=>by
 have n1:1<=n:=by omega
 have n2:1<=n - 1 - 1:=by omega
 have n3:1<=n - 1 - 1 - 1 - 1:=by omega
 have hc':=hW.cell hc id
 have hv':=hv.mod hW (fun _ _=>id)
 have hN':N<=W.heap.size:=Nat.le_trans hN hW.size
 obtain ⟨va,vc,hva,_,_⟩:=hv'.2.1.slice
 have hlz:(cs.zip us).length=cs.length:=by rw [List.length_zip,hv.1];omega
 rw [hlz] at hva
 subst hva
 obtain ⟨w1,hw1⟩:∃ z,z=W.alloc (.cells #[.func (.yield l) #[] #[]] 207):=⟨_,rfl⟩
 have hm1:Mod zAb W w1:=by rw [hw1];exact (Mod.refl _ W).alloc _
 have hz1:w1.heap.size=W.heap.size+1:=by rw [hw1,World.size_alloc]
 have hb1:Blk w1 W.heap.size [.func (.yield l) #[] #[]] 207:=by rw [hw1];exact Blk.new W _ _
 have c1:(W.alloc (.cells #[.func (.yield l) #[] #[]] 207)).cell? ⟨Bs,0,none⟩=some (.slice va cs.length vc):=by rw [<-hw1];exact hm1.cell hc' id
 refine callsIn_of_wp_marks Tryz.func246 rfl trivial ?_ rfl
 simp only [Tryz.ntmps246,List.size_toArray,List.length_cons,List.length_nil,Nat.reduceAdd,Nat.reduceSub,Array.replicate_succ,Array.replicate_zero,List.push_toArray,List.append_toArray,List.nil_append,List.cons_append]
 gi_wp2_with (refine ⟨trivial,?_⟩;gi_at_call 247;refine (yRw none (n - 1) _ _ _ _).mono ?_;rintro e w' ⟨rfl,rfl⟩)
 rw [<-hw1] at c1 ⊢
 obtain ⟨w2,hw2⟩:∃ z,z=w1.alloc (.cells #[.slice va cs.length vc] 126):=⟨_,rfl⟩
 have hm2':Mod zAb w1 w2:=by rw [hw2];exact (Mod.refl _ w1).alloc _
 have hm2:Mod zAb W w2:=hm1.trans hm2'
 have hz2:w2.heap.size=W.heap.size+2:=by rw [hw2,World.size_alloc,hz1]
 have hb2:Blk w2 (W.heap.size+1) [.slice va cs.length vc] 126:=by rw [<-hz1,hw2];exact Blk.new w1 _ _
 have by2:=(hb1.mod hm2' id).cell 0 rfl
 have c2:=hm2'.cell c1 id
 rw [<-hw2]
 have hv2:=hv'.mod hm2 (fun _ _=>id)
 have hX2:∀ k,X k->k<w2.heap.size/\¬(k=W.heap.size+1\/(cs.zip us≠[]/\(Value.slice va cs.length vc).ownBlock=some k)):=fun k hk=>by
  have:=hX k hk
  refine ⟨by omega,fun e=>?_⟩
  rcases e with e | ⟨e1,e2⟩
  ·omega
  ·exact this.2 (.inl (hv2.2.1.blk e1 e2))
 have hz2a:w2.heap.size<=W.heap.size+2:=by omega
 have hz2b:W.heap.size+2<=w2.heap.size:=by omega
 clear hw1 hw2 hz1 hz2
 have hU:∀ {N0:Nat} {w0:World},w0.heap.size<=N0->zQu N0 (fun (_:Unit) Wc=>Mod X w0 Wc):=fun hz _ A B hm _ hj=>hj.since hm hz
 refine zNz (gf:=264) (lb:=#[.pointer (some ⟨W.heap.size+1,0,none⟩)]) rfl (enters_of Tryz.func264 (by kernel_rfl) rfl)
  (yJj (n - 1) (W.heap.size+1) (.slice va cs.length vc) (cs.zip us) (by omega) w2 (hb2.cell 0 rfl) (hv2.2.1.wide (by omega))) (fun _=>rfl) X hX2
  (fun k e=>by
   rcases e with e | ⟨e1,e2⟩
   ·omega
   ·have:=hv2.2.1.blk e1 e2;omega)
  (fun pre Wc=>J (pre.flatMap fun (x:(CmdD × Value) × Nat)=>oneC cs x.1.1) Wc/\Mod X w2 Wc) (fun c Wc=>c=.ret/\Jx Wc)
  (fun s A B hm hs hj=>⟨(hJ.mono (by omega)) _ A B hm hs hj.1,hj.2.since hm (Nat.le_refl _)⟩) (fun s A B hm hs hj=>⟨hj.1,(hJx.mono (by omega)) () A B hm hs hj.2⟩)
  ⟨(hJ.mono (N':=W.heap.size) (Nat.le_refl _)) [] W w2 (hm2.mono (fun _ _ e=>e.elim)) (Nat.le_refl _) h0,Mod.refl _ _⟩ ?round ?done ?stop
 case round=>
  rintro pre x rest Wr hx ⟨hJr,hMr⟩ hsz
  obtain ⟨⟨cm,u⟩,j⟩:=x
  obtain ⟨i,hi1,hi2⟩:∃ i:Nat,cs[i]?=some cm/\us[i]?=some u:=by
   have hmem:((cm,u),j)∈(cs.zip us).zipIdx.reverse:=by rw [hx];simp
   rw [List.mem_reverse] at hmem
   have:=List.fst_mem_of_mem_zipIdx hmem
   obtain ⟨i,hi⟩:=List.getElem?_of_mem this
   exact ⟨i,zWr hi⟩
  obtain ⟨ua,uc,hu,-,-⟩:=(hv2.2.2 i cm u hi1 hi2).slice
  subst hu
  obtain ⟨kind,tx,time,ws⟩:=cm
  have hcm:=List.mem_of_getElem? hi1
  have HX:Hid (∃ tail,zBn cs=pre.flatMap (fun (x:(CmdD × Value) × Nat)=>oneC cs x.1.1)++(oneC cs ⟨kind,tx,time,ws⟩++tail)):=by
   refine ⟨rest.flatMap (fun (x:(CmdD × Value) × Nat)=>oneC cs x.1.1),?_⟩
   rw [<-yEx cs us hv.1,hx,List.flatMap_append,List.flatMap_cons]
  clear hx hi1 hi2
  dsimp only [encC]
  gi_wp2
  refine ⟨(Mod.refl _ Wr).alloc _,?_⟩
  rintro Wb hmb ⟨r,hr⟩ ⟨hJb,hMb⟩
  have hne1:Wr.heap.size≠w2.heap.size+1:=by omega
  obtain ⟨Bx,hBx⟩:∃ z,z=Wr.heap.size:=⟨_,rfl⟩
  have hbx:Blk Wb Bx [.int .i64 kind,.int .i64 tx,.int .i64 time,.slice ua ws.length uc] 108:=by rw [hBx];exact (Blk.new Wr _ _).mod hmb hne1
  rw [<-hBx]
  replace hne1:Bx≠w2.heap.size+1:=by rw [hBx];exact hne1
  have hBx1:w2.heap.size+1<Bx:=by omega
  clear hBx hmb
  have x0:=hbx.cell 0 rfl
  have x1:=hbx.cell 1 rfl
  by_cases hk:kind=3
  ·subst hk
   obtain ⟨i,d,hp,hd,hdl⟩:=hpl _ hcm rfl
   have hXB:¬ X Bs:=fun e=>(hX _ e).2 (.inr rfl)
   have hXN:∀ k,k<N->¬ X k:=fun k hk e=>(hX _ e).2 (.inl hk)
   have cb:=hMb.cell c2 hXB
   have hvb:=hv2.mod hMb hXN
   have hNb:N<=Wb.heap.size:=by have:=hMb.size;omega
   have hil:i<cs.length:=(List.getElem?_eq_some_iff.1 hd).1
   obtain ⟨u2,hu2⟩:∃ z,us[i]?=some z:=⟨_,List.getElem?_eq_getElem (by rw [hv.1];exact hil)⟩
   have hdu:(cs.zip us)[i]?=some (d,u2):=by rw [List.getElem?_zip_eq_some];exact ⟨hd,hu2⟩
   obtain ⟨lb,lo,ls,hla,hlb,hls,-,hcl⟩:=hvb.2.1.at hdu
   obtain ⟨da,dc,hud,-,-⟩:=(hvb.2.2 i d u2 hd hu2).slice
   subst hud hla
   unfold zZt at hls
   subst hls
   have cu:=hcl 3 _ rfl
   have hidx:idxI (zDl cs 2 tx)=(i:Int):=by rw [hp];rfl
   have HPL:Hid (∀ wx,Mod zAb Wb wx->CallsIn (Fence.wide.inRound (w2.heap.size+1)) (n - 1 - 1 - 1) Tryz.prog 145 #[.slice (some ⟨lb,lo,none⟩) cs.length vc,.int .i64 2,.int .i64 tx] wx fun e w'=>e=.returned (.int .i64 (i:Int))/\Mod zAb wx w'):=fun wx hmx=>
    CallsIn.inRound (w2.heap.size+1) (callsIn_wide.2 (by have:=zPv _ cs 2 tx wx ((hvb.mod hmx (fun _ _=>id)).cmds (Nat.le_trans hNb hmx.size)) hlen;rw [hidx] at this;exact this))
   have HO:Hid (oneC cs ⟨3,tx,time,ws⟩=d.writes.reverse):=by
    unfold Hid oneC
    rw [if_pos rfl]
    simp only [hp,Option.getD_some]
    rw [List.getD_eq_getElem?_getD,hd]
    rfl
   clear hidx hp
   have hiI:(i:Int)<(cs.length:Int):=by omega
   have hi0:(0:Int)<=(i:Int):=by omega
   have HV:=Hmq (hvb.2.2 i d _ hd hu2)
   have byb:=hMb.cell by2 (fun e=>absurd (hX _ e).1 (Nat.lt_irrefl _))
   gi_wp2
   gi_cut [22] from 29 (fun t wc=>∃ Bp,t=.func (.func 245) #[] #[.pointer (some ⟨Bp,0,none⟩)]/\Mod zAb Wb wc/\wc.cell? ⟨Bp,0,none⟩=some (.slice da d.writes.length dc)/\Wb.heap.size<=Bp)
   case first=>
    have HM:=Hmq hMb
    clear hd hu2 hdu hcl hvb hv2 hv' hv hJb hMb hJr hMr hU hX2 hX hY
    gi_region_with (first
     | (refine ⟨trivial,?_⟩;gi_at_call 145;refine (HPL.out _ ((Mod.refl zAb Wb).drew)).mono ?_;rintro e w' ⟨rfl,hm'⟩;have cb':=hm'.cell cb id;have cu':=hm'.cell cu id)
     | (refine ⟨trivial,?_⟩;gi_at_call 205;refine (CallsIn.inRound (w2.heap.size+1) (yGi none _ _ _ _ _)).mono ?_;rintro e w'' ⟨rfl,rfl⟩))
    all_goals
     gi_wp2
     gi_meet
     case rel=>exact ⟨_,rfl,(((Mod.refl zAb Wb).drew).trans hm').alloc _,by simp,hm'.size⟩
   case rest=>
    obtain ⟨Bp,rfl,hmc,cp,hBp⟩:=hcut
    gi_wp2
    have hVc:=HV.out.mod hmc (fun _ _=>id) (fun _ _ e=>e)
    have hMc:Mod X w2 wc:=hMb.trans' hmc (fun _ _ e=>e.elim)
    have zc:=hmc.size
    have hrc:wc.heap[w2.heap.size+1]?=some (.loop r):=(hmc.block _ (Array.getElem?_eq_some_iff.1 hr).1 id).trans hr
    have hJc:J (pre.flatMap fun (x:(CmdD × Value) × Nat)=>oneC cs x.1.1) wc:=hJ _ Wb wc (hmc.mono (fun _ _ e=>e.elim)) (by have:=hMb.size;omega) hJb
    have byc:=hmc.cell byb id
    obtain ⟨tail,htail⟩:=HX.out
    rw [HO.out] at htail
    have hBl:=World.block_lt_of_cell? wc _ cp
    dsimp only at hBl
    have hXd:∀ k,X k->k<wc.heap.size/\¬(k=Bp\/(d.writes≠[]/\(Value.slice da d.writes.length dc).ownBlock=some k)):=fun k hk=>by
     have h1:=hX k hk
     have h2:=hMb.size
     refine ⟨by omega,fun e=>?_⟩
     rcases e with e | ⟨e1,e2⟩
     ·omega
     ·exact h1.2 (.inl (hVc.blk e1 e2))
    refine yPi (l₀:=w2.heap.size+1) (r₀:=r) hrc (gf:=245) (lb:=#[.pointer (some ⟨Bp,0,none⟩)]) rfl (enters_of Tryz.func245 (by kernel_rfl) rfl)
     (zWl (n - 1 - 1 - 1) Bp (.slice da d.writes.length dc) d.writes (by omega) wc cp (hVc.wide (by omega))) (fun _=>rfl) X hXd
     (fun k e=>by
      rcases e with e | ⟨e1,e2⟩
      ·omega
      ·have:=hVc.blk e1 e2;omega)
     (fun pre2 Wc=>J ((pre.flatMap fun (x:(CmdD × Value) × Nat)=>oneC cs x.1.1)++pre2.map Prod.fst) Wc/\Mod X wc Wc) (fun c Wc=>c=.ret/\Jx Wc)
     (fun s A B hm hs hj=>⟨(hJ.mono (by have:=hMb.size;omega)) _ A B hm hs hj.1,hj.2.since hm (Nat.le_refl _)⟩) (fun s A B hm hs hj=>⟨hj.1,(hJx.mono (by have:=hMb.size;omega)) () A B hm hs hj.2⟩)
     ⟨by simpa using hJc,Mod.refl _ _⟩ ?round2 ?done2 ?stop2
    case round2=>
     rintro pre2 ⟨p,j2⟩ rest2 Wq hx2 ⟨hJq,hMq⟩ hsz2
     have hcl2:zBn cs=((pre.flatMap fun (x:(CmdD × Value) × Nat)=>oneC cs x.1.1)++pre2.map Prod.fst)++p :: (rest2.map Prod.fst++tail):=by
      have e:d.writes.reverse=pre2.map Prod.fst++p :: rest2.map Prod.fst:=by
       have:=congrArg (List.map Prod.fst) hx2
       rw [List.map_reverse,List.zipIdx_map_fst] at this
       rw [this]
       simp
      rw [htail,e]
      simp
     obtain ⟨key,val,gone⟩:=p
     dsimp only [encP]
     gi_wp2
     refine ⟨(Mod.refl _ Wq).alloc _,?_⟩
     rintro We hme ⟨r2,hr2⟩ ⟨hJe,hMe⟩
     obtain ⟨fn,tmps,assign,body,hy,hR⟩:=hY _ _ _ We hcl2 hJe
     dsimp only [encO] at hy
     have hbp:Blk We Wq.heap.size [.string key,.string val,.bool gone] 65:=(Blk.new Wq _ _).mod hme (by simp only [zAd];omega)
     obtain ⟨Bq,hBq⟩:∃ z,z=Wq.heap.size:=⟨_,rfl⟩
     rw [<-hBq] at hbp ⊢
     have p0:=hbp.cell 0 rfl
     have p1:=hbp.cell 1 rfl
     have p2:=hbp.cell 2 rfl
     have bye:=hMe.cell byc (fun e=>absurd (hX _ e).1 (Nat.lt_irrefl _))
     clear hcl2 hx2 hme hBq htail
     gi_wp2
     refine (zPf hR).mono ?_
     rintro e W5 ⟨hm5,⟨rfl,hJ5⟩ | ⟨rfl,hJ5⟩⟩
     ·gi_wp2
      refine ⟨hm5,?_,hMe.trans hm5⟩
      rw [List.map_append,<-List.append_assoc]
      exact hJ5
     ·gi_wp2
      exact ⟨hm5,rfl,hJ5⟩
    case done2=>
     rintro W4 hm4 ⟨hJ4,-⟩
     gi_wp2
     have hm5:Mod X Wb W4:=(hmc.mono (fun _ _ e=>e.elim)).trans hm4
     refine ⟨hm5,?_,hMb.trans hm5⟩
     rw [List.flatMap_append,List.flatMap_singleton]
     dsimp only
     rw [HO.out]
     rw [List.map_reverse,List.zipIdx_map_fst] at hJ4
     exact hJ4
    case stop2=>
     rintro c W4 hm4 ⟨rfl,hJ4⟩
     gi_wp2
     exact ⟨(hmc.mono (fun _ _ e=>e.elim)).trans hm4,rfl,hJ4⟩
  ·have hkb:(kind == 3)=false:=by simpa using hk
   gi_wp2
   refine ⟨Mod.refl _ _,?_,hMb⟩
   rw [List.flatMap_append]
   simpa [oneC,hk] using hJb
 case done=>
  rintro W3 hm3 hK3 ⟨hI3,-⟩
  gi_wp2
  refine ⟨by simp,.inl ⟨_,_,rfl,run_takeDeferred hK3,?_⟩⟩
  have hmP:Mod (zDd W.heap.size) W3 (W3.putObj w2.heap.size (.deferred none)):=(Mod.refl _ _).putObj (fun _=>by simp only [zDd];omega) _
  have hs3:W.heap.size<=W3.heap.size:=Nat.le_trans hm2.size hm3.size
  rw [yEx cs us hv.1] at hI3
  exact ⟨_,results_none rfl _ _ _,⟨_,rfl⟩,((hm2.mono (fun _ _ e=>e.elim)).trans hm3).since hmP (Nat.le_refl _),.inl (hJ _ _ _ hmP hs3 hI3)⟩
 case stop=>
  rintro c W3 hm3 hK3 ⟨rfl,hI3⟩
  gi_wp2
  refine ⟨by simp,.inl ⟨_,_,rfl,run_takeDeferred hK3,?_⟩⟩
  have hmP:Mod (zDd W.heap.size) W3 (W3.putObj w2.heap.size (.deferred none)):=(Mod.refl _ _).putObj (fun _=>by simp only [zDd];omega) _
  have hs3:W.heap.size<=W3.heap.size:=Nat.le_trans hm2.size hm3.size
  exact ⟨_,results_none rfl _ _ _,⟨_,rfl⟩,((hm2.mono (fun _ _ e=>e.elim)).trans hm3).since hmP (Nat.le_refl _),.inr (hJx () _ _ hmP hs3 hI3)⟩
attribute [local go_sem] Oper.semAt_some
theorem yCa(n:Nat)(a:Option Addr)(len cap:Nat)(w:World) :
  CallsIn Fence.wide n Tryz.prog 206 #[.slice a len cap] w fun e w'=>e=.returned (.func (.func 246) #[] #[.pointer (some ⟨w.heap.size,0,none⟩)])/\w'=w.alloc (.cells #[.slice a len cap] 126):=by
 refine callsIn_of_wp Tryz.func206 rfl trivial ?_ rfl
 simp only [Tryz.ntmps206,List.size_toArray,List.length_cons,List.length_nil,Nat.reduceAdd,Nat.reduceSub,Array.replicate_succ,Array.replicate_zero,List.push_toArray,List.append_toArray,List.nil_append,List.cons_append]
 gi_wp2
 go_ret
 exact ⟨rfl,rfl⟩
theorem ySo(n:Nat)(b:Nat)(a:Option Addr)(len cap:Nat)(w:World) :
  CallsIn Fence.wide n Tryz.prog 150 #[.pointer (some ⟨b,0,none⟩),.slice a len cap] w fun e w'=>e=.returned (.func (.func 204) #[] #[.pointer (some ⟨w.heap.size,0,none⟩),.pointer (some ⟨w.heap.size+1,0,none⟩)])/\w'=(w.alloc (.cells #[.pointer (some ⟨b,0,none⟩)] 93)).alloc (.cells #[.slice a len cap] 126):=by
 refine callsIn_of_wp Tryz.func150 rfl trivial ?_ rfl
 simp only [Tryz.ntmps150,List.size_toArray,List.length_cons,List.length_nil,Nat.reduceAdd,Nat.reduceSub,Array.replicate_succ,Array.replicate_zero,List.push_toArray,List.append_toArray,List.nil_append,List.cons_append]
 gi_wp2
 go_ret
 exact ⟨rfl,rfl⟩
theorem yHf(n:Nat)(hn:20<=n)(Bt Bs N b:Nat)(v tv:Value)(ws:List zAz)(cs:List CmdD)(us:List Value)(hwl:ws.length<=1000)(hlen:cs.length<=1000)(hpl:∀ c∈cs,c.kind=3->∃ i d,zDl cs 2 c.tx=some i/\cs[i]?=some d/\d.writes.length<=1000)(w:World)
  (ht:w.cell? ⟨Bt,0,none⟩=some (.pointer (some ⟨b,0,none⟩))) (hb:w.cell? ⟨b,2,none⟩=some tv) (hbN:b<N) (htv:SlR w N 3 zXn tv ws) (hc:w.cell? ⟨Bs,0,none⟩=some v) (hv:LogV w N v cs us) (hN:N<=w.heap.size) :
  Iter n Tryz.prog 204 #[.pointer (some ⟨Bt,0,none⟩),.pointer (some ⟨Bs,0,none⟩)] encO (fun k=>k<N\/k=Bs\/k=Bt) (ws.reverse++zBn cs) w:=fun l X J Jx W hW hX hJ hJx hY h0=>by
 have n1:1<=n:=by omega
 have n2:1<=n - 1 - 1:=by omega
 have n3:1<=n - 1 - 1 - 1 - 1:=by omega
 have hc':=hW.cell hc id
 have ht':=hW.cell ht id
 have hb':=hW.cell hb id
 have htv':=htv.mod hW (fun _ _=>id) (fun _ _ e=>e)
 have hv':=hv.mod hW (fun _ _=>id)
 have hN':N<=W.heap.size:=Nat.le_trans hN hW.size
 have hlz:(cs.zip us).length=cs.length:=by rw [List.length_zip,hv.1];omega
 obtain ⟨va,vc,hva,-,-⟩:=hv'.2.1.slice
 rw [hlz] at hva
 obtain ⟨ta,tc,hta,-,-⟩:=htv'.slice
 subst hva hta
 clear hlz
 obtain ⟨w1,hw1⟩:∃ z,z=W.alloc (.cells #[.func (.yield l) #[] #[]] 207):=⟨_,rfl⟩
 have hm1:Mod zAb W w1:=by rw [hw1];exact (Mod.refl _ W).alloc _
 have hz1:w1.heap.size=W.heap.size+1:=by rw [hw1,World.size_alloc]
 have hb1:Blk w1 W.heap.size [.func (.yield l) #[] #[]] 207:=by rw [hw1];exact Blk.new W _ _
 have c1:(W.alloc (.cells #[.func (.yield l) #[] #[]] 207)).cell? ⟨Bt,0,none⟩=some (.pointer (some ⟨b,0,none⟩)):=by rw [<-hw1];exact hm1.cell ht' id
 have c2:(W.alloc (.cells #[.func (.yield l) #[] #[]] 207)).cell? ⟨b,2,none⟩=some (.slice ta ws.length tc):=by rw [<-hw1];exact hm1.cell hb' id
 have c2z:=World.block_lt_of_cell? _ _ c2
 refine callsIn_of_wp_marks Tryz.func204 rfl trivial ?_ rfl
 simp only [Tryz.ntmps204,List.size_toArray,List.length_cons,List.length_nil,Nat.reduceAdd,Nat.reduceSub,Array.replicate_succ,Array.replicate_zero,List.push_toArray,List.append_toArray,List.nil_append,List.cons_append]
 gi_wp2_with (refine ⟨trivial,?_⟩;gi_at_call 205;refine (yGi none (n - 1) _ _ _ _).mono ?_;rintro e w' ⟨rfl,rfl⟩)
 rw [<-hw1]
 obtain ⟨w2,hw2⟩:∃ z,z=w1.alloc (.cells #[.slice ta ws.length tc] 95):=⟨_,rfl⟩
 have hm2':Mod zAb w1 w2:=by rw [hw2];exact (Mod.refl _ w1).alloc _
 have hm2:Mod zAb W w2:=hm1.trans hm2'
 have hz2:w2.heap.size=W.heap.size+2:=by rw [hw2,World.size_alloc,hz1]
 have hb2:Blk w2 (W.heap.size+1) [.slice ta ws.length tc] 95:=by rw [<-hz1,hw2];exact Blk.new w1 _ _
 have by2:=(hb1.mod hm2' id).cell 0 rfl
 have cs2:=hm2.cell hc' id
 rw [<-hw2]
 have hv2:=hv'.mod hm2 (fun _ _=>id)
 have htv2:=htv'.mod hm2 (fun _ _=>id) (fun _ _ e=>e)
 have hXN:∀ k,k<N->¬ X k:=fun k hk e=>(hX _ e).2 (.inl hk)
 have hXB:¬ X Bs:=fun e=>(hX _ e).2 (.inr (.inl rfl))
 have hX2:∀ k,X k->k<w2.heap.size/\¬(k=W.heap.size+1\/(ws≠[]/\(Value.slice ta ws.length tc).ownBlock=some k)):=fun k hk=>by
  have:=hX k hk
  refine ⟨by omega,fun e=>?_⟩
  rcases e with e | ⟨e1,e2⟩
  ·omega
  ·exact this.2 (.inl (htv2.blk e1 e2))
 have hz2a:w2.heap.size<=W.heap.size+2:=by omega
 have hz2b:W.heap.size+2<=w2.heap.size:=by omega
 clear hw1 hw2 hz1 hz2 c1 c2 c2z
 refine zNz (gf:=245) (lb:=#[.pointer (some ⟨W.heap.size+1,0,none⟩)]) rfl (enters_of Tryz.func245 (by kernel_rfl) rfl)
  (zWl (n - 1) (W.heap.size+1) (.slice ta ws.length tc) ws (by omega) w2 (hb2.cell 0 rfl) (htv2.wide (by omega))) (fun _=>rfl) X hX2
  (fun k e=>by
   rcases e with e | ⟨e1,e2⟩
   ·omega
   ·have:=htv2.blk e1 e2;omega)
  (fun pre Wc=>J (pre.map Prod.fst) Wc/\Mod X w2 Wc) (fun c Wc=>c=.ret/\Jx Wc)
  (fun s A B hm hs hj=>⟨(hJ.mono (by omega)) _ A B hm hs hj.1,hj.2.since hm (Nat.le_refl _)⟩) (fun s A B hm hs hj=>⟨hj.1,(hJx.mono (by omega)) () A B hm hs hj.2⟩)
  ⟨(hJ.mono (N':=W.heap.size) (Nat.le_refl _)) [] W w2 (hm2.mono (fun _ _ e=>e.elim)) (Nat.le_refl _) h0,Mod.refl _ _⟩ ?round ?done ?stop
 case round=>
  rintro pre ⟨p,j⟩ rest Wq hx ⟨hJq,hMq⟩ hsz
  have hcl2:ws.reverse++zBn cs=pre.map Prod.fst++p :: (rest.map Prod.fst++zBn cs):=by
   have e:ws.reverse=pre.map Prod.fst++p :: rest.map Prod.fst:=by
    have:=congrArg (List.map Prod.fst) hx
    rw [List.map_reverse,List.zipIdx_map_fst] at this
    rw [this]
    simp
   rw [e]
   simp
  obtain ⟨key,val,gone⟩:=p
  dsimp only [encP]
  gi_wp2
  refine ⟨(Mod.refl _ Wq).alloc _,?_⟩
  rintro We hme ⟨r2,hr2⟩ ⟨hJe,hMe⟩
  obtain ⟨fn,tmps,assign,body,hy,hR⟩:=hY _ _ _ We hcl2 hJe
  dsimp only [encO] at hy
  have hbp:Blk We Wq.heap.size [.string key,.string val,.bool gone] 65:=(Blk.new Wq _ _).mod hme (by simp only [zAd];omega)
  obtain ⟨Bq,hBq⟩:∃ z,z=Wq.heap.size:=⟨_,rfl⟩
  rw [<-hBq] at hbp ⊢
  have p0:=hbp.cell 0 rfl
  have p1:=hbp.cell 1 rfl
  have p2:=hbp.cell 2 rfl
  have bye:=hMe.cell by2 (fun e=>absurd (hX _ e).1 (Nat.lt_irrefl _))
  clear hcl2 hx hme hBq
  gi_wp2
  refine (zPf hR).mono ?_
  rintro e W5 ⟨hm5,⟨rfl,hJ5⟩ | ⟨rfl,hJ5⟩⟩
  ·gi_wp2
   refine ⟨hm5,?_,hMe.trans hm5⟩
   rw [List.map_append]
   exact hJ5
  ·gi_wp2
   exact ⟨hm5,rfl,hJ5⟩
 case done=>
  rintro W3 hm3 hK3 ⟨hJ3,-⟩
  rw [List.map_reverse,List.zipIdx_map_fst] at hJ3
  have cs3:=hm3.cell cs2 hXB
  have hv3:=hv2.mod hm3 hXN
  have by3:=hm3.cell by2 (fun e=>absurd (hX _ e).1 (Nat.lt_irrefl _))
  have z3:=hm3.size
  gi_wp2_with (refine ⟨trivial,?_⟩;gi_at_call 206;refine (yCa (n - 1) _ _ _ _).mono ?_;rintro e w' ⟨rfl,rfl⟩)
  obtain ⟨w4,hw4⟩:∃ z,z=W3.alloc (.cells #[.slice va cs.length vc] 126):=⟨_,rfl⟩
  have hm4:Mod zAb W3 w4:=by rw [hw4];exact (Mod.refl _ W3).alloc _
  have z4:w4.heap.size=W3.heap.size+1:=by rw [hw4,World.size_alloc]
  have hb4:Blk w4 W3.heap.size [.slice va cs.length vc] 126:=by rw [hw4];exact Blk.new W3 _ _
  rw [<-hw4]
  have by4:=hm4.cell by3 id
  have z4a:W3.heap.size+1<=w4.heap.size:=by omega
  have z4b:w4.heap.size<=W3.heap.size+1:=by omega
  have hK4:w4.heap[w2.heap.size]?=some (.deferred (some [])):=(hm4.block _ (Array.getElem?_eq_some_iff.1 hK3).1 id).trans hK3
  clear hw4 z4
  have hv4:=hv3.mod hm4 (fun _ _=>id)
  have hX4:∀ k,X k->k<w4.heap.size/\¬(k<N\/k=W3.heap.size):=fun k hk=>by
   have:=hX k hk
   exact ⟨by omega,fun e=>e.elim (fun e=>this.2 (.inl e)) (fun e=>by omega)⟩
  refine zNz (gf:=246) (lb:=#[.pointer (some ⟨W3.heap.size,0,none⟩)]) rfl (enters_of Tryz.func246 (by kernel_rfl) rfl)
   (zTn (n - 1) (by omega) W3.heap.size N (.slice va cs.length vc) cs us hlen hpl w4 (hb4.cell 0 rfl) hv4 (by omega)) (fun _=>rfl) X hX4
   (fun k e=>by omega)
   (fun pre Wc=>J (ws.reverse++pre) Wc/\Mod X w4 Wc) (fun c Wc=>c=.ret/\Jx Wc)
   (fun s A B hm hs hj=>⟨(hJ.mono (by omega)) _ A B hm hs hj.1,hj.2.since hm (Nat.le_refl _)⟩) (fun s A B hm hs hj=>⟨hj.1,(hJx.mono (by omega)) () A B hm hs hj.2⟩)
   ⟨by rw [List.append_nil];exact hJ _ W3 w4 (hm4.mono (fun _ _ e=>e.elim)) (by omega) hJ3,Mod.refl _ _⟩ ?round2 ?done2 ?stop2
  case round2=>
   rintro pre p rest Wq hx ⟨hJq,hMq⟩ hsz
   have hcl2:ws.reverse++zBn cs=(ws.reverse++pre)++p :: rest:=by rw [hx];simp
   obtain ⟨key,val,gone⟩:=p
   dsimp only [encO]
   gi_wp2
   refine ⟨(Mod.refl _ Wq).alloc _,?_⟩
   rintro We hme ⟨r2,hr2⟩ ⟨hJe,hMe⟩
   obtain ⟨fn,tmps,assign,body,hy,hR⟩:=hY _ _ _ We hcl2 hJe
   dsimp only [encO] at hy
   have hbp:Blk We Wq.heap.size [.string key,.string val,.bool gone] 65:=(Blk.new Wq _ _).mod hme (by simp only [zAd];omega)
   obtain ⟨Bq,hBq⟩:∃ z,z=Wq.heap.size:=⟨_,rfl⟩
   rw [<-hBq] at hbp ⊢
   have p0:=hbp.cell 0 rfl
   have p1:=hbp.cell 1 rfl
   have p2:=hbp.cell 2 rfl
   have bye:=hMe.cell by4 (fun e=>absurd (hX _ e).1 (Nat.lt_irrefl _))
   clear hcl2 hx hme hBq
   gi_wp2
   refine (zPf hR).mono ?_
   rintro e W5 ⟨hm5,⟨rfl,hJ5⟩ | ⟨rfl,hJ5⟩⟩
   ·gi_wp2
    refine ⟨hm5,?_,hMe.trans hm5⟩
    rw [<-List.append_assoc]
    exact hJ5
   ·gi_wp2
    exact ⟨hm5,rfl,hJ5⟩
  case done2=>
   rintro W5 hm5 hK5 ⟨hJ5,-⟩
   gi_wp2
   have hK6:(W5.putObj w4.heap.size (.deferred none)).heap[w2.heap.size]?=some (.deferred (some [])):=by
    rw [World.putObj_heap_other (by omega),hm5.block _ (by omega) (fun e=>by have:=(hX _ e).1;omega)]
    exact hK4
   refine ⟨by simp,.inl ⟨_,_,rfl,run_takeDeferred hK5,⟨by simp,.inl ⟨_,_,rfl,run_takeDeferred hK6,?_⟩⟩⟩⟩
   have hmP:Mod (zDd W.heap.size) W5 ((W5.putObj w4.heap.size (.deferred none)).putObj w2.heap.size (.deferred none)):=((Mod.refl _ _).putObj (fun _=>by simp only [zDd];omega) _).putObj (fun _=>by simp only [zDd];omega) _
   have hs5:W.heap.size<=W5.heap.size:=by have:=hm5.size;omega
   exact ⟨_,results_none rfl _ _ _,⟨_,rfl⟩,((((hm2.mono (fun _ _ e=>e.elim)).trans hm3).trans (hm4.mono (fun _ _ e=>e.elim))).trans hm5).since hmP (Nat.le_refl _),.inl (hJ _ _ _ hmP hs5 hJ5)⟩
  case stop2=>
   rintro c W5 hm5 hK5 ⟨rfl,hJ5⟩
   gi_wp2
   have hK6:(W5.putObj w4.heap.size (.deferred none)).heap[w2.heap.size]?=some (.deferred (some [])):=by
    rw [World.putObj_heap_other (by omega),hm5.block _ (by omega) (fun e=>by have:=(hX _ e).1;omega)]
    exact hK4
   refine ⟨by simp,.inl ⟨_,_,rfl,run_takeDeferred hK5,⟨by simp,.inl ⟨_,_,rfl,run_takeDeferred hK6,?_⟩⟩⟩⟩
   have hmP:Mod (zDd W.heap.size) W5 ((W5.putObj w4.heap.size (.deferred none)).putObj w2.heap.size (.deferred none)):=((Mod.refl _ _).putObj (fun _=>by simp only [zDd];omega) _).putObj (fun _=>by simp only [zDd];omega) _
   have hs5:W.heap.size<=W5.heap.size:=by have:=hm5.size;omega
   exact ⟨_,results_none rfl _ _ _,⟨_,rfl⟩,((((hm2.mono (fun _ _ e=>e.elim)).trans hm3).trans (hm4.mono (fun _ _ e=>e.elim))).trans hm5).since hmP (Nat.le_refl _),.inr (hJx () _ _ hmP hs5 hJ5)⟩
 case stop=>
  rintro c W3 hm3 hK3 ⟨rfl,hI3⟩
  gi_wp2
  refine ⟨by simp,.inl ⟨_,_,rfl,run_takeDeferred hK3,?_⟩⟩
  have hmP:Mod (zDd W.heap.size) W3 (W3.putObj w2.heap.size (.deferred none)):=(Mod.refl _ _).putObj (fun _=>by simp only [zDd];omega) _
  have hs3:W.heap.size<=W3.heap.size:=Nat.le_trans hm2.size hm3.size
  exact ⟨_,results_none rfl _ _ _,⟨_,rfl⟩,((hm2.mono (fun _ _ e=>e.elim)).trans hm3).since hmP (Nat.le_refl _),.inr (hJx () _ _ hmP hs3 hI3)⟩
attribute [local go_sem] Oper.semAt_some
def zJw(xs:List zAz)(key:ByteArray):ByteArray × Bool:=match xs.find? fun p=>decide (p.key=key) with
 | none=>(ByteArray.empty,false)
 | some p=>if p.gone then (ByteArray.empty,false) else (p.val,true)
theorem yEh{xs:List zAz}{key:ByteArray}(h:∀ p∈xs,p.key≠key):zJw xs key=(ByteArray.empty,false):=by
 unfold zJw
 rw [List.find?_eq_none.2 (fun p hp=>by simpa using h p hp)]
theorem yEg{pre rest:List zAz}{p:zAz}{key:ByteArray}(h:∀ p∈pre,p.key≠key)(hp:p.key=key):zJw (pre++p :: rest) key=if p.gone then (ByteArray.empty,false) else (p.val,true):=by
 unfold zJw
 rw [List.find?_append,List.find?_eq_none.2 (fun p hp=>by simpa using h p hp),List.find?_cons_of_pos (by simpa using hp)]
 rfl
theorem yPd(b:Nat)(v tv:Value)(ws:List zAz)(cs:List CmdD)(us:List Value)(key:ByteArray)(hwl:ws.length<=1000)(hlen:cs.length<=1000)(hpl:∀ c∈cs,c.kind=3->∃ i d,zDl cs 2 c.tx=some i/\cs[i]?=some d/\d.writes.length<=1000)(w:World)
  (hb:w.cell? ⟨b,2,none⟩=some tv) (htv:SlR w w.heap.size 3 zXn tv ws) (hv:LogV w w.heap.size v cs us) :
  Calls Tryz.prog 90 #[.pointer (some ⟨b,0,none⟩),v,.string key] w fun e w'=>e=.returned (.tuple #[.string (zJw (ws.reverse++zBn cs) key).1,.bool (zJw (ws.reverse++zBn cs) key).2])/\Mod zAb w w':=by
 obtain ⟨n,hn⟩:∃ n:Nat,40<=n:=⟨40,Nat.le_refl _⟩
 have n1:1<=n:=by omega
 refine (callsIn_wide (n:=n)).1 ?_
 have hlz:(cs.zip us).length=cs.length:=by rw [List.length_zip,hv.1];omega
 obtain ⟨va,vc,hva,-,-⟩:=hv.2.1.slice
 rw [hlz] at hva
 subst hva
 clear hlz
 refine callsIn_of_wp_marks Tryz.func90 rfl trivial ?_ rfl
 simp only [Tryz.ntmps90,List.size_toArray,List.length_cons,List.length_nil,Nat.reduceAdd,Nat.reduceSub,Array.replicate_succ,Array.replicate_zero,List.push_toArray,List.append_toArray,List.nil_append,List.cons_append]
 gi_wp2_with (refine ⟨trivial,?_⟩;gi_at_call 150;refine (ySo _ _ _ _ _ _).mono ?_;rintro e w' ⟨rfl,rfl⟩)
 obtain ⟨w1,hw1⟩:∃ z,z=w.alloc (.cells #[.string key] 9):=⟨_,rfl⟩
 obtain ⟨w2,hw2⟩:∃ z,z=w1.alloc (.cells #[.string ⟨#[]⟩] 9):=⟨_,rfl⟩
 obtain ⟨w3,hw3⟩:∃ z,z=w2.alloc (.cells #[.bool false] 4):=⟨_,rfl⟩
 obtain ⟨w4,hw4⟩:∃ z,z=w3.alloc (.cells #[.pointer (some ⟨b,0,none⟩)] 93):=⟨_,rfl⟩
 obtain ⟨w5,hw5⟩:∃ z,z=w4.alloc (.cells #[.slice va cs.length vc] 126):=⟨_,rfl⟩
 have z1:w1.heap.size=w.heap.size+1:=by rw [hw1,World.size_alloc]
 have z2:w2.heap.size=w.heap.size+2:=by rw [hw2,World.size_alloc,z1]
 have z3:w3.heap.size=w.heap.size+3:=by rw [hw3,World.size_alloc,z2]
 have z4:w4.heap.size=w.heap.size+4:=by rw [hw4,World.size_alloc,z3]
 have z5:w5.heap.size=w.heap.size+5:=by rw [hw5,World.size_alloc,z4]
 have m1:Mod zAb w w1:=by rw [hw1];exact (Mod.refl _ w).alloc _
 have m2:Mod zAb w1 w2:=by rw [hw2];exact (Mod.refl _ w1).alloc _
 have m3:Mod zAb w2 w3:=by rw [hw3];exact (Mod.refl _ w2).alloc _
 have m4:Mod zAb w3 w4:=by rw [hw4];exact (Mod.refl _ w3).alloc _
 have m5:Mod zAb w4 w5:=by rw [hw5];exact (Mod.refl _ w4).alloc _
 have hK:Blk w5 w.heap.size [.string key] 9:=by
  have:Blk w1 w.heap.size [.string key] 9:=by rw [hw1];exact Blk.new w _ _
  exact (((this.mod m2 id).mod m3 id).mod m4 id).mod m5 id
 have h6:Blk w5 (w.heap.size+1) [.string ⟨#[]⟩] 9:=by
  have:Blk w2 (w.heap.size+1) [.string ⟨#[]⟩] 9:=by rw [<-z1,hw2];exact Blk.new w1 _ _
  exact ((this.mod m3 id).mod m4 id).mod m5 id
 have h7:Blk w5 (w.heap.size+2) [.bool false] 4:=by
  have:Blk w3 (w.heap.size+2) [.bool false] 4:=by rw [<-z2,hw3];exact Blk.new w2 _ _
  exact (this.mod m4 id).mod m5 id
 have h8:Blk w5 (w.heap.size+3) [.pointer (some ⟨b,0,none⟩)] 93:=by
  have:Blk w4 (w.heap.size+3) [.pointer (some ⟨b,0,none⟩)] 93:=by rw [<-z3,hw4];exact Blk.new w3 _ _
  exact this.mod m5 id
 have h9:Blk w5 (w.heap.size+4) [.slice va cs.length vc] 126:=by rw [<-z4,hw5];exact Blk.new w4 _ _
 have hm:Mod zAb w w5:=(((m1.trans m2).trans m3).trans m4).trans m5
 rw [<-hw1,<-hw2,<-hw3,<-hw4,<-hw5]
 have hbw:=World.block_lt_of_cell? w _ hb
 dsimp only at hbw
 have za:w5.heap.size<=w.heap.size+5:=by omega
 have zb:w.heap.size+5<=w5.heap.size:=by omega
 clear hw1 hw2 hw3 hw4 hw5 z1 z2 z3 z4 z5 m1 m2 m3 m4 m5
 have hb5:=hm.cell hb id
 have htv5:=htv.mod hm (fun _ _=>id) (fun _ _ e=>e)
 have hv5:=hv.mod hm (fun _ _=>id)
 have hmS:∀ (A:World) (x y:Value),Mod (fun k=>k=w.heap.size+1\/k=w.heap.size+2) A ((A.setCell ⟨w.heap.size+1,0,none⟩ x).setCell ⟨w.heap.size+1+1,0,none⟩ y):=fun A x y=>
  ((Mod.refl _ A).setCell (p:=⟨w.heap.size+1,0,none⟩) (fun _=>.inl rfl) x).setCell (p:=⟨w.heap.size+1+1,0,none⟩) (fun _=>.inr rfl) y
 have h6S:∀ {A:World} {u:Value} (h:Blk A (w.heap.size+1) [u] 9) (x y:Value),Blk ((A.setCell ⟨w.heap.size+1,0,none⟩ x).setCell ⟨w.heap.size+1+1,0,none⟩ y) (w.heap.size+1) [x] 9:=fun {A u} h x y=>
  (h.set 0 x).mod (Mod.setBlk (w.heap.size+1+1) 0 y) (by simp only [zAd];omega)
 have h7S:∀ {A:World} {u:Value} (h:Blk A (w.heap.size+2) [u] 4) (x y:Value),Blk ((A.setCell ⟨w.heap.size+1,0,none⟩ x).setCell ⟨w.heap.size+1+1,0,none⟩ y) (w.heap.size+2) [y] 4:=fun {A u} h x y=>
  (h.mod (Mod.setBlk (w.heap.size+1) 0 x) (by simp only [zAd];omega)).set 0 y
 obtain ⟨ans,hans⟩:∃ z,z=zJw (ws.reverse++zBn cs) key:=⟨_,rfl⟩
 refine zNz (gf:=204) (lb:=#[.pointer (some ⟨w.heap.size+3,0,none⟩),.pointer (some ⟨w.heap.size+4,0,none⟩)]) rfl (enters_of Tryz.func204 (by kernel_rfl) rfl)
  (yHf (n - 1) (by omega) (w.heap.size+3) (w.heap.size+4) w.heap.size b (.slice va cs.length vc) tv ws cs us hwl hlen hpl w5 (h8.cell 0 rfl) hb5 hbw htv5 (h9.cell 0 rfl) hv5 hm.size) (fun _=>rfl)
  (fun k=>k=w.heap.size+1\/k=w.heap.size+2) (fun k e=>by omega) (fun k e=>by omega)
  (fun pre Wc=>(∀ p∈pre,p.key≠key)/\Blk Wc w.heap.size [.string key] 9/\Blk Wc (w.heap.size+1) [.string ⟨#[]⟩] 9/\Blk Wc (w.heap.size+2) [.bool false] 4)
  (fun c Wc=>c=.ret/\Blk Wc (w.heap.size+1) [.string ans.1] 9/\Blk Wc (w.heap.size+2) [.bool ans.2] 4)
  (fun s A B hmm hs hj=>⟨hj.1,hj.2.1.mod hmm (by simp only [zDd];omega),hj.2.2.1.mod hmm (by simp only [zDd];omega),hj.2.2.2.mod hmm (by simp only [zDd];omega)⟩)
  (fun s A B hmm hs hj=>⟨hj.1,hj.2.1.mod hmm (by simp only [zDd];omega),hj.2.2.mod hmm (by simp only [zDd];omega)⟩)
  ⟨by simp,hK,h6,h7⟩ ?round ?done ?stop
 case round=>
  rintro pre p rest Wq hx ⟨hpre,hKq,h6q,h7q⟩ hsz
  obtain ⟨pk,pv,gone⟩:=p
  dsimp only [encO]
  gi_wp2
  refine ⟨(Mod.refl _ Wq).alloc _,?_⟩
  rintro We hme ⟨r2,hr2⟩ ⟨-,hKe,h6e,h7e⟩
  have hbp:Blk We Wq.heap.size [.string pk,.string pv,.bool gone] 65:=(Blk.new Wq _ _).mod hme (by simp only [zAd];omega)
  obtain ⟨Bq,hBq⟩:∃ z,z=Wq.heap.size:=⟨_,rfl⟩
  rw [<-hBq] at hbp ⊢
  have p0:=hbp.cell 0 rfl
  have p1:=hbp.cell 1 rfl
  have p2:=hbp.cell 2 rfl
  have k0:=hKe.cell 0 rfl
  have f6:=h6e.frozen 0
  have f7:=h7e.frozen 0
  have c6:=h6e.cell 0 rfl
  have c7:=h7e.cell 0 rfl
  by_cases hk:pk=key
  ·subst hk
   have HA:Hid (ans=if gone then (ByteArray.empty,false) else (pv,true)):=by
    unfold Hid
    rw [hans,hx,yEg hpre rfl]
   clear hans hx hBq
   cases gone with
   | true=>
    gi_wp2
    have e6:ans.1=⟨#[]⟩:=by rw [HA.out];rfl
    have e7:ans.2=false:=by rw [HA.out];rfl
    exact ⟨hmS We _ _,rfl,by rw [e6];exact h6S h6e _ _,by rw [e7];exact h7S h7e _ _⟩
   | false=>
    gi_wp2
    have e6:ans.1=pv:=by rw [HA.out];rfl
    have e7:ans.2=true:=by rw [HA.out];rfl
    exact ⟨hmS We _ _,rfl,by rw [e6];exact h6S h6e _ _,by rw [e7];exact h7S h7e _ _⟩
  ·have hkb:(pk.toList == key.toList)=false:=by
    rw [beq_eq_false_iff_ne]
    intro q
    rw [ByteArray.toList_eq,ByteArray.toList_eq] at q
    exact hk (zMm q)
   clear hans hx hBq
   gi_wp2
   refine ⟨Mod.refl _ _,fun p hp=>?_,hKe,h6e,h7e⟩
   rcases List.mem_append.1 hp with hp | hp
   ·exact hpre p hp
   ·rw [List.mem_singleton] at hp
    subst hp
    exact hk
 case done=>
  rintro W3 hm3 hK3 ⟨hpre,hKq,h6q,h7q⟩
  have f6:=h6q.frozen 0
  have f7:=h7q.frozen 0
  have c6:=h6q.cell 0 rfl
  have c7:=h7q.cell 0 rfl
  gi_wp2
  have hms:=hmS W3 (.string ⟨#[]⟩) (.bool false)
  have hK4:=hms.block w5.heap.size (Array.getElem?_eq_some_iff.1 hK3).1 (by omega)
  rw [hK3] at hK4
  refine ⟨by simp,.inl ⟨_,_,rfl,run_takeDeferred hK4,?_⟩⟩
  obtain ⟨W4,hW4⟩:∃ z,z=(W3.setCell ⟨w.heap.size+1,0,none⟩ (.string ⟨#[]⟩)).setCell ⟨w.heap.size+1+1,0,none⟩ (.bool false):=⟨_,rfl⟩
  have h6s:=h6S h6q (.string ⟨#[]⟩) (.bool false)
  have h7s:=h7S h7q (.string ⟨#[]⟩) (.bool false)
  rw [<-hW4] at hms h6s h7s ⊢
  have hmP:Mod (zDd w5.heap.size) W4 (W4.putObj w5.heap.size (.deferred none)):=(Mod.refl _ _).putObj (fun _=>by simp only [zDd];omega) _
  have c6:=(h6s.mod hmP (by simp only [zDd];omega)).cell 0 rfl
  have c7:=(h7s.mod hmP (by simp only [zDd];omega)).cell 0 rfl
  have e:=yEh hpre
  refine ⟨.tuple #[.string ⟨#[]⟩,.bool false],?_,by rw [e];rfl,?_⟩
  ·simp [results,Tryz.f90,go_sem,c6,c7]
  ·exact ((hm.mono (fun _ _ e=>e.elim)).trans' ((hm3.trans hms).since hmP (by have:=hm3.size;omega)) (fun i hi e=>by omega))
 case stop=>
  rintro c W3 hm3 hK3 ⟨rfl,h6q,h7q⟩
  gi_wp2
  refine ⟨by simp,.inl ⟨_,_,rfl,run_takeDeferred hK3,?_⟩⟩
  have hmP:Mod (zDd w5.heap.size) W3 (W3.putObj w5.heap.size (.deferred none)):=(Mod.refl _ _).putObj (fun _=>by simp only [zDd];omega) _
  have c6:=(h6q.mod hmP (by simp only [zDd];omega)).cell 0 rfl
  have c7:=(h7q.mod hmP (by simp only [zDd];omega)).cell 0 rfl
  refine ⟨.tuple #[.string ans.1,.bool ans.2],?_,by rw [hans],?_⟩
  ·simp [results,Tryz.f90,go_sem,c6,c7]
  ·exact ((hm.mono (fun _ _ e=>e.elim)).trans' (hm3.since hmP (Nat.le_refl _)) (fun i hi e=>by omega))
end Go.Proofs.YtogaigioeohjaaaGreatDoor
