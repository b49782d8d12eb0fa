import Derived.Test.YtiblcbdkiecbgaaGreatDoorM08
import Derived.Test.YtiblcbdkiecbgaaGreatDoorM06
import Derived.Lib.SliceRun
import Derived.WalkSpells
import Derived.Test.YtiblcbdkiecbgaaGreatDoorM01
import Derived.Deep.Strs
import Derived.Deep.Slices
import Derived.OpenShut
import Derived.Test.YtiblcbdkiecbgaaGreatDoorProg
import Derived.WalkKit
import Derived.Lib.AppendStr
import Derived.Deep.RegionLaw
import Derived.Deep.AppendLies
import Derived.Deep.DeepCutAuto
import Derived.Maps.OwnSet
import Derived.Maps.AppendAt
import Derived.RegionTactic
import Derived.ChangeAlike
import Derived.Laws.IdiomCopy
import Derived.Deep.CutBlock
import Derived.Lib.Overlaps
import Derived.Lib.AppendZeros
import Derived.Lib.AppendZerosOnto
import Derived.Laws.NewBlocks
import Derived.Shelf.RegionOpenPlain
import Derived.Maps.StringElems
import Derived.Maps.RangeWalk
import Derived.ChangeMaps5
import Derived.Shelf.Lays
import Derived.Shelf.Sort.Plain
import Derived.Shelf.Slices.In.SortNone2
import Derived.Ground.NamesProg
set_option linter.unusedVariables false
set_option maxRecDepth 100000
set_option maxHeartbeats 16000000
namespace Go.Proofs.YtiblcbdkiecbgaaGreatDoor
open Go.RowKit Go.Lib Go.Maps
def confN(s:NodeS)(ep:Int)(ns:List Int):NodeS:=⟨s.id,ep,ns,s.log,s.stable⟩
def becN(s:NodeS)(ep:Int)(ns:List Int):NodeS:=if !inN s && inN (confN s ep ns) then ⟨s.id,ep,ns,[],0⟩ else confN s ep ns
theorem NodeP.configured{w w5:World}{L:Lo}{g:Nat}{nv lv v5:Value}{s:NodeS}{ep:Int}{ns:List Int}(h:NodeP w L g nv lv s)(hm5:Mod noBlock w w5)(ho:w5.ownsRow w.heap.size 3 1 v5 ns.length (ns.map (Value.int .i64)))(hep:int64 ep)(hns:∀ x∈ns,int64 x)(hl:ns.length<=1000000) :
  NodeP ((w5.setCell ⟨g,1,none⟩ (.int .i64 ep)).setCell ⟨g,2,none⟩ v5) L g v5 lv (confN s ep ns)/\Mod (oneBlock g) w ((w5.setCell ⟨g,1,none⟩ (.int .i64 ep)).setCell ⟨g,2,none⟩ v5):=by
 have h5:=h.quiet hm5
 obtain ⟨a1,a2,_⟩:=h.apart
 have hlow:=h.low
 have hgl:=h.blk.lt
 have hms:Mod (oneBlock g) w5 ((w5.setCell ⟨g,1,none⟩ (.int .i64 ep)).setCell ⟨g,2,none⟩ v5):=(Mod.setBlk g 1 _).trans (Mod.setBlk g 2 _)
 have hqs:Qm w5 L (oneBlock g):=Qm.of_node h5 (fun k _ e=>.inl e)
 refine ⟨⟨(h5.blk.set 1 _).set 2 _,h.low,own_mod (own_base ho (by omega)) hms (fun k _ _ hk e=>?_),h5.lg.mod hms hqs (fun k hk e=>a2 (by rw [hk,e])),⟨h.ints.1,hep,hns⟩,⟨hl,h.few.2⟩,h.st,fun k hk=>Nat.lt_of_lt_of_le (h.xb k hk) (Nat.le_trans hm5.size hms.size)⟩,(hm5.mono (fun _ _ e=>e.elim)).trans hms⟩
 simp only [oneBlock] at e;subst e
 obtain ⟨h1,_,_⟩:=own_cells ho hk
 omega
theorem NodeP.emptied{w:World}{L:Lo}{g:Nat}{nv lv:Value}{s:NodeS}(h:NodeP w L g nv lv s) :
  NodeP ((w.setCell ⟨g,3,none⟩ (.slice none 0 0)).setCell ⟨g,4,none⟩ (.int .i64 0)) L g nv (.slice none 0 0) ⟨s.id,s.epoch,s.nodes,[],0⟩/\Mod (oneBlock g) w ((w.setCell ⟨g,3,none⟩ (.slice none 0 0)).setCell ⟨g,4,none⟩ (.int .i64 0)):=by
 obtain ⟨a1,a2,_⟩:=h.apart
 have hms:Mod (oneBlock g) w ((w.setCell ⟨g,3,none⟩ (.slice none 0 0)).setCell ⟨g,4,none⟩ (.int .i64 0)):=(Mod.setBlk g 3 _).trans (Mod.setBlk g 4 _)
 exact ⟨⟨(h.blk.set 3 _).set 4 _,h.low,own_mod h.ns hms (fun k _ _ hk e=>a1 (by rw [hk,e])),RowC.nil _ _,h.ints,⟨h.few.1,by simp⟩,by simp,fun k hk=>Nat.lt_of_lt_of_le (h.xb k hk) hms.size⟩,hms⟩
theorem cbec_yes(L:Lo)(g:Nat)(nv lv:Value)(s:NodeS)(ep:Int)(v:Value)(ns:List Int)(w:World)(h:NodeP w L g nv lv s)(hgt:¬ ep<=s.epoch)(hep:int64 ep)(hv:IntsV w v ns)(hin:∀ x∈ns,int64 x)(h1n:1<=ns.length)(h6n:ns.length<=6)(hdup:dupB [] ns=false) :
  Calls Tryz.prog 187 #[.pointer (some ⟨g,0,none⟩),.agg #[.int .i64 ep,v]] w fun e w'=>
   ∃ r nv' lv',e=.returned (.tuple #[r,.nilIface])/\NodeP w' L g nv' lv' (tickN (becN s ep ns)).1/\RowM w' L r (tickN (becN s ep ns)).2/\freshV w r/\freshV w nv'/\Moved w lv lv'/\Mod (oneBlock g) w w':=by
 have hv0:=hv
 obtain ⟨ca,ccap,rfl,hc1,hc2,_⟩:=hv0
 obtain ⟨w1,hw1⟩:∃ q,q=w.alloc (.cells #[.int .i64 ep,.slice ca ns.length ccap] 240):=⟨_,rfl⟩
 have hm1:Mod noBlock w w1:=by rw [hw1];exact (Mod.refl _ w).alloc _
 have hB1:Blk w1 w.heap.size [.int .i64 ep,.slice ca ns.length ccap] 240:=by rw [hw1];exact Blk.new w _ _
 have h1:=h.quiet hm1
 obtain ⟨c0,c1,c2,c3,c4⟩:=blkN5 h1.blk
 have x0:=hB1.cell 0 rfl
 have x1:=hB1.cell 1 rfl
 have z1:=hB1.lt
 have z2:=h1.blk.lt
 have z3:=h.blk.lt
 have hd:decide (ep<=s.epoch)=false:=decide_eq_false hgt
 have hd1:decide ((ns.length:Int)<1)=false:=decide_eq_false (by omega)
 have hd2:decide ((ns.length:Int) > 6)=false:=decide_eq_false (by omega)
 have HV:=Hmr (hv.quiet hm1)
 have HIN:=Hmr hin
 have HN:=Hmr h1
 clear h h1 hv hin
 go_enter Tryz.func187,Tryz.ntmps187
 go_upto_region 1 with fail
 rw [<-hw1]
 clear hw1
 go_quiet (fail)
 have HT:=twice_any _ ns _ (HV.out.quiet ((Mod.refl noBlock w1).drewN nq)) HIN.out (by omega)
 rw [hdup] at HT
 have HT':=Hmr HT
 clear HT hdup
 go_wp2_with fail
 refine HT'.out.mono ?_
 rintro e w3 ⟨rfl,hm3⟩
 have hm13:Mod noBlock w1 w3:=((Mod.refl noBlock w1).drewN nq).trans hm3
 have hN3:=HN.out.quiet hm13
 have HI:=Hmr (in_any L g nv lv s w3 hN3)
 clear HT' hm3 c0 c1 c2 c3 c4 x0 x1
 go_wp2_with fail
 refine HI.out.mono ?_
 rintro e w4 ⟨rfl,m4,rfl⟩
 have hm14:Mod noBlock w1 (w3.drewN m4):=hm13.drewN m4
 have hN4:=hN3.drewN m4
 obtain ⟨w4,hw4⟩:∃ q,q=w3.drewN m4:=⟨_,rfl⟩
 rw [<-hw4] at hm14 hN4 ⊢
 have hB4:=hB1.mod hm14 id
 have x0:=hB4.cell 0 rfl
 have x1:=hB4.cell 1 rfl
 obtain ⟨c0,c1,c2,c3,c4⟩:=blkN5 hN4.blk
 have f1:=hN4.blk.frozen 1
 have f2:=hN4.blk.frozen 2
 have z4:=hB4.lt
 have z5:=hN4.blk.lt
 have hzz:=(hm1.trans hm14).size
 have HCL:=Hmr (cloneI_any _ ns w4.drew (HV.out.quiet (hm14.drew)) (by intro e;rw [e] at h1n;simp at h1n) (by omega))
 clear HI hw4 hm13 hN3
 go_upto_region 6 with fail
 go_cut [6] (fun t wc=>t=.bool (inN s)/\∃ nv',NodeP wc L g nv' lv (confN s ep ns)/\freshV w nv'/\Mod (oneBlock g) w4 wc)
 case first=>
  go_region_with (first
   | (go_at_call 237;refine HCL.out.mono ?_;rintro e w5 ⟨v5,rfl,hown5,hm5⟩;have hm45:Mod noBlock w4 w5:=((Mod.refl noBlock w4).drew).trans hm5;have y0:=hm45.cell x0 id;have y1:=hm45.cell x1 id;have z7:=Nat.lt_of_lt_of_le z4 hm45.size;have d1:=hm45.cell c1 id;have d2:=hm45.cell c2 id;have e1:=(hm45.frozen (p:=⟨g,1,none⟩) z5 id).trans f1;have e2:=(hm45.frozen (p:=⟨g,2,none⟩) z5 id).trans f2;have z6:=Nat.lt_of_lt_of_le z5 hm45.size;obtain ⟨va5,vc5,rfl⟩:=own_slice hown5)
   | fail)
  all_goals
   have R:=hN4.configured hm45 (own_base hown5 (Nat.le_refl _)) hep HIN.out (by omega)
   have hf5:freshV w (.slice va5 ns.length vc5):=fun k hk=>by
    have:=(own_cells hown5 hk).1
    have h9:w4.drew.heap.size=w4.heap.size:=rfl
    omega
   go_wp2_with fail
   go_meet
   case rel=>exact ⟨rfl,_,R.1,hf5,R.2⟩
 case rest=>
  obtain ⟨rfl,nv5,hN5,hf5,hm45⟩:=hcut
  clear HCL c0 c1 c2 c3 c4 f1 f2 x0 x1 hN4 HN
  have hm05:Mod (oneBlock g) w wc:=((hm1.trans hm14).mono (fun _ _ e=>e.elim)).trans hm45
  have hz5:=hm05.size
  cases hin:inN s with
  | true=>
   have HB:Hid (becN s ep ns=confN s ep ns):=by rw [Hid,becN,hin];rfl
   have HK:=Hmr (ctick_any L g nv5 lv _ wc hN5)
   rw [<-HB.out] at HK
   clear hN5
   go_wp2_with fail
   refine HK.out.mono ?_
   rintro e w6 ⟨r,rfl,hN6,hR6,hf6,hm6⟩
   clear HK
   go_wp2_with fail
   refine bodyPost_ret (results_tmp2 rfl _ _ _) rfl ⟨r,nv5,lv,rfl,hN6,hR6,fun k hk=>Nat.le_trans hz5 (hf6 k hk),hf5,Moved.refl _ _,hm05.trans hm6⟩
  | false=>
   have HI:=in_any L g nv5 lv _ wc hN5
   cases hin2:inN (confN s ep ns) with
   | false=>
    rw [hin2] at HI
    have HI':=Hmr HI
    have HB:Hid (becN s ep ns=confN s ep ns):=by rw [Hid,becN,hin,hin2];rfl
    have HN5:=Hmr hN5
    clear HI hN5
    go_wp2_with fail
    refine HI'.out.mono ?_
    rintro e w6 ⟨rfl,m6,rfl⟩
    have HK:=Hmr (ctick_any L g nv5 lv _ _ (HN5.out.drewN m6))
    rw [<-HB.out] at HK
    clear HI'
    go_wp2_with fail
    refine HK.out.mono ?_
    rintro e w7 ⟨r,rfl,hN7,hR7,hf7,hm7⟩
    clear HK
    go_wp2_with fail
    refine bodyPost_ret (results_tmp2 rfl _ _ _) rfl ⟨r,nv5,lv,rfl,hN7,hR7,fun k hk=>Nat.le_trans hz5 (hf7 k hk),hf5,Moved.refl _ _,(hm05.drewN m6).trans hm7⟩
   | true=>
    rw [hin2] at HI
    have HI':=Hmr HI
    have HB:Hid (becN s ep ns=⟨s.id,ep,ns,[],0⟩):=by rw [Hid,becN,hin,hin2];rfl
    have HN5:=Hmr hN5
    clear HI hN5
    go_wp2_with fail
    refine HI'.out.mono ?_
    rintro e w6 ⟨rfl,m6,rfl⟩
    have hN6:=HN5.out.drewN m6
    obtain ⟨hN7,hm7⟩:=hN6.emptied
    obtain ⟨c0,c1,c2,c3,c4⟩:=blkN5 hN6.blk
    have f3:=hN6.blk.frozen 3
    have f4:=hN6.blk.frozen 4
    have z6:=hN6.blk.lt
    have HK:=Hmr (ctick_any L g nv5 (.slice none 0 0) _ _ hN7)
    have hbe:(⟨(confN s ep ns).id,(confN s ep ns).epoch,(confN s ep ns).nodes,[],0⟩:NodeS)=becN s ep ns:=by rw [HB.out];rfl
    rw [hbe] at HK
    have HM7:=Hmr hm7
    obtain ⟨la,lcap,hlv⟩:=hN6.lg.slice
    subst hlv
    clear HI' hN6 hN7 hbe hm7
    go_wp2_with fail
    refine HK.out.mono ?_
    rintro e w8 ⟨r,rfl,hN8,hR8,hf8,hm8⟩
    clear HK
    go_wp2_with fail
    refine bodyPost_ret (results_tmp2 rfl _ _ _) rfl ⟨r,nv5,.slice none 0 0,rfl,hN8,hR8,fun k hk=>Nat.le_trans hz5 (by simpa using hf8 k hk),hf5,.inr (fun k hk=>by simp [Value.ownBlock] at hk),((hm05.drewN m6).trans HM7.out).trans hm8⟩
variable {E:Ext}
end Go.Proofs.YtiblcbdkiecbgaaGreatDoor
namespace Go.Proofs.YtiblcbdkiecbgaaGreatDoor
open Go.RowKit Go.Lib Go.Maps
variable {E:Ext}
end Go.Proofs.YtiblcbdkiecbgaaGreatDoor
namespace Go.Proofs.YtiblcbdkiecbgaaGreatDoor
open Go.RowKit Go.Lib Go.Maps
variable {E:Ext}
end Go.Proofs.YtiblcbdkiecbgaaGreatDoor
namespace Go.Proofs.YtiblcbdkiecbgaaGreatDoor
open Go.RowKit Go.Lib Go.Maps
variable {E:Ext}
end Go.Proofs.YtiblcbdkiecbgaaGreatDoor
namespace Go.Proofs.YtiblcbdkiecbgaaGreatDoor
open Go.RowKit Go.Lib Go.Maps
variable {E:Ext}
end Go.Proofs.YtiblcbdkiecbgaaGreatDoor
namespace Go.Proofs.YtiblcbdkiecbgaaGreatDoor
structure ClmD where
 tx:Int
 mode:Int
 deriving DecidableEq
def Elder(l:List ClmD):Prop:=l.Pairwise fun a b=>a.tx<b.tx
structure KeyS where
 held:List ClmD
 waits:List ClmD
abbrev Tab:=ByteArray->KeyS
def KeyS.bare(k:KeyS):Prop:=k.held=[]/\k.waits=[]
structure KeyOK(k:KeyS):Prop where
 held:Elder k.held
 waits:Elder k.waits
 hmode:∀ c∈k.held,c.mode=1\/c.mode=2
 wmode:∀ c∈k.waits,c.mode=1\/c.mode=2
 wants:∀ c∈k.waits,∀ o∈k.held,o.tx=c.tx->o.mode<c.mode
theorem KeyOK.nil:KeyOK ⟨[],[]⟩:=⟨List.Pairwise.nil,List.Pairwise.nil,by simp,by simp,by simp⟩
end Go.Proofs.YtiblcbdkiecbgaaGreatDoor
namespace Go.Proofs.YtiblcbdkiecbgaaGreatDoor
open Go.RowKit Go.Lib Go.Maps
structure LineS where
 nodes:List NodeS
 heard:Nat
structure TxS where
 state:Int
 ats:List Int
 writes:List PairD
 time:Int
structure HouseS where
 lines:List LineS
 dead:List Int
 net:NetS
 keys:Tab
 txs:List TxS
def sendH(h:HouseS)(ms:List MsgD):HouseS:={ h with net:=sends h.net ms }
def nextEp(l:LineS):Int:=(l.nodes.getD 0 ⟨0,0,[],[],0⟩).epoch+1
def becomeL(l:LineS):LineS × List MsgD:=
 (⟨l.nodes.map fun n=>(tickN (becN n (nextEp l) (l.nodes.map (·.id)))).1,l.heard⟩,l.nodes.flatMap fun n=>(tickN (becN n (nextEp l) (l.nodes.map (·.id)))).2)
def newNode(id:Int):NodeS:=⟨id,0,[],[],0⟩
def newLineH(k nodes:Nat):LineS × List MsgD:=becomeL ⟨(List.range nodes).map fun (i:Nat)=>newNode (10*(k:Int)+(i:Int)),0⟩
def newF(nodes:Nat):Nat->HouseS
 | 0=>⟨[],[],⟨[],0,[]⟩,fun _=>⟨[],[]⟩,[]⟩
 | k+1=>let h:=newF nodes k;{ h with lines:=h.lines++[(newLineH k nodes).1],net:=sends h.net (newLineH k nodes).2 }
def newH(shards nodes:Nat):HouseS:=newF nodes (shards+1)
def beginH(h:HouseS):HouseS:={ h with txs:=h.txs++[⟨1,List.replicate h.lines.length 0,[],0⟩] }
end Go.Proofs.YtiblcbdkiecbgaaGreatDoor
namespace Go.Proofs.YtiblcbdkiecbgaaGreatDoor
open Go.ChangeShapes Go.WideShapes Go.RowKit Go.Deep
section
variable {H:Type} {enc:TypeId × Value->H} {P:Program} {w:World} {base:Nat} {spare:Nat->Bool} {held:Bool}
end
end Go.Proofs.YtiblcbdkiecbgaaGreatDoor
namespace Go.Proofs.YtiblcbdkiecbgaaGreatDoor
open Go.RowKit Go.Lib Go.Maps
theorem Hmq{p:Prop}(h:p):Hid p:=h
def clmCells(d:ClmD):List Value:=[.int .i64 d.tx,.int .i64 d.mode]
def clmsCells:List ClmD->List Value
 | []=>[]
 | o :: os=>clmCells o++clmsCells os
def RowK(w:World)(B:Nat)(v:Value)(os:List ClmD):Prop:=w.ownsRow B 264 2 v os.length (clmsCells os)
end Go.Proofs.YtiblcbdkiecbgaaGreatDoor
namespace Go.Proofs.YtiblcbdkiecbgaaGreatDoor
open Go.RowKit Go.Lib Go.Maps Go.Shelf
end Go.Proofs.YtiblcbdkiecbgaaGreatDoor
namespace Go.Proofs.YtiblcbdkiecbgaaGreatDoor
open Go.RowKit Go.Lib Go.Maps
theorem drop_consQ{α:Type}{l:List α}{j:Nat}{x:α}(h:l[j]?=some x):l.drop j=x :: l.drop (j+1):=by
 have hj:j<l.length:=(List.getElem?_eq_some_iff.1 h).1
 rw [List.getElem?_eq_getElem hj] at h;simp at h
 rw [<-h,<-List.drop_eq_getElem_cons hj]
theorem take_snocQ{α:Type}{l:List α}{j:Nat}{x:α}(h:l[j]?=some x):l.take (j+1)=l.take j++[x]:=by
 have hj:j<l.length:=(List.getElem?_eq_some_iff.1 h).1
 rw [List.getElem?_eq_getElem hj] at h;simp at h
 rw [List.take_succ_eq_append_getElem hj,h]
theorem Tryz.infoIQ:(Tryz.prog.info? 3).map (fun i=>(i.zero,i.size,i.bytes))=some (some (.int .i64 0),1,8):=by kernel_rfl
def okQ(k:ByteArray):Prop:=k.size<=maxLen
def hdrQ:Value->Option (DataW Unit)
 | .slice none n c=>if n=0/\c=0 then some .nil else none
 | .slice (some a) n c=>if a.off=0/\a.spot=none then some (.agg [.lit (.int .i64 a.block),.lit (.int .i64 n),.lit (.int .i64 c)]) else none
 | _=>none
def encQ(v:Value):DataW Unit:=(hdrQ v).getD .nil
def IsHdrQ(v:Value):Prop:=v=.slice none 0 0\/∃ g n c,v=.slice (some ⟨g,0,none⟩) n c
def elemQ:Value->Option (DataW Unit × List MemPlace)
 | .agg xs=>match xs.toList with
  | [h,v]=>match hdrQ h,hdrQ v with
   | some a,some b=>some (.agg [a,b],[])
   | _,_=>none
  | _=>none
 | _=>none
def encK(h v:Value):DataW Unit:=.agg [encQ h,encQ v]
def zeroK:DataW Unit:=.agg [.nil,.nil]
def keyQ(k:ByteArray):Lit:=.string k.data.toList
structure TbM where
 b:Nat
 pre:List Value
 post:List Value
 t:TypeId
 m:Option Nat
 n:Nat
 hd:ByteArray->Bool->Value
def TbM.own(q:TbM)(x:Nat):Prop:=q.m=some x\/∃ k i,okQ k/\(q.hd k i).ownBlock=some x
def KeyS.list(k:KeyS)(i:Bool):List ClmD:=if i then k.held else k.waits
def MapQ(w:World)(B:Nat)(m:Option Nat)(n:Nat)(hd:ByteArray->Bool->Value)(s:Tab):Prop:=match m with
 | none=>∀ k,okQ k->(∀ i,hd k i=.slice none 0 0)/\(s k).bare
 | some g=>B<=g/\∃ D,w.ownsMap Tryz.prog 9 elemQ g n D/\∀ k,okQ k->D.atKey (keyQ k) zeroK=encK (hd k true) (hd k false)/\(Maps.has D (keyQ k)=true↔¬ (s k).bare)
end Go.Proofs.YtiblcbdkiecbgaaGreatDoor
namespace Go.Proofs.YtiblcbdkiecbgaaGreatDoor
open Go.Shelf
end Go.Proofs.YtiblcbdkiecbgaaGreatDoor
namespace Go.Proofs.YtiblcbdkiecbgaaGreatDoor
open Go.RowKit Go.Lib Go.Maps Go.Sort Go.Shelf
end Go.Proofs.YtiblcbdkiecbgaaGreatDoor
namespace Go.Proofs.YtiblcbdkiecbgaaGreatDoor
open Go.RowKit Go.Lib Go.Maps
end Go.Proofs.YtiblcbdkiecbgaaGreatDoor
