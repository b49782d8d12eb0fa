import Derived.Test.YtmaiggbnceejiaaGreatDoorP44
set_option linter.unusedVariables false
set_option maxRecDepth 100000
set_option maxHeartbeats 16000000
namespace Go.Proofs.YtmaiggbnceejiaaGreatDoor
open Go.RowKit Go.Lib Go.Maps
structure zIr(w:World)(db ob nD nO:Nat)(sc:Scan):Prop where
 d:zCv w db nD sc.D
 o:zIb w ob nO sc.O
theorem zIr.quiet{w w':World}{db ob nD nO:Nat}{sc:Scan}(h:zIr w db ob nD nO sc)(hm:Mod zAb w w'):zIr w' db ob nD nO sc:=⟨h.d.mod hm id,h.o.mod hm id⟩
def twoB(a b:Nat)(k:Nat):Prop:=k=a\/k=b
theorem zIr.not_cells{w:World}{db ob nD nO:Nat}{sc:Scan}(h:zIr w db ob nD nO sc){k:Nat}(hk:twoB db ob k){cur:Array Value}{t:TypeId}{fr:Nat × Nat}:w.heap[k]?≠some (.cells cur t fr):=by
 rcases hk with rfl | rfl
 ·exact zKh h.d
 ·exact zMz h.o
theorem zIr.qm{w:World}{db ob nD nO:Nat}{sc:Scan}(h:zIr w db ob nD nO sc){L:Lo}(hL:L.n<=db/\L.n<=ob):Qm w L (twoB db ob):=fun k _ hk hs=>by
 rcases hs with hs | ⟨⟨cur,fr,hc⟩,_⟩
 ·rcases hk with rfl | rfl <;> omega
 ·exact h.not_cells hk hc
theorem zIr.rowC{w w':World}{db ob nD nO:Nat}{sc:Scan}(h:zIr w db ob nD nO sc){L:Lo}(hL:L.n<=db/\L.n<=ob){v:Value}{cs:List CmdD}(hr:RowC w L v cs)(hm:Mod (twoB db ob) w w'):RowC w' L v cs:=by
 refine hr.mod hm (h.qm hL) (fun k hk e=>?_)
 obtain ⟨us,_,h2,_⟩:=hr
 obtain ⟨_,_,cur,hc⟩:=zAh h2 hk
 exact h.not_cells e hc
theorem zIr.rowL{w w':World}{db ob nD nO:Nat}{sc:Scan}(h:zIr w db ob nD nO sc){L:Lo}(hL:L.n<=db/\L.n<=ob){B:Nat}{v:Value}{ls:List (List CmdD)}(hr:RowL w B L v ls)(hm:Mod (twoB db ob) w w'):RowL w' B L v ls:=by
 obtain ⟨us,h1,h2,h3⟩:=hr
 refine ⟨us,h1,zAm h2 hm (fun k _ _ hk e=>?_),fun i l u hi hu=>⟨h.rowC hL (h3 i l u hi hu).1 hm,(h3 i l u hi hu).2⟩⟩
 obtain ⟨_,_,cur,hc⟩:=zAh h2 hk
 exact h.not_cells e hc
theorem RowL.at{w:World}{B:Nat}{L:Lo}{v:Value}{ls:List (List CmdD)}(h:RowL w B L v ls){i:Nat}{l:List CmdD}(hi:ls[i]?=some l):∃ vb cap a acap,v=.slice (some ⟨vb,0,none⟩) ls.length cap/\w.cell? ⟨vb,i,none⟩=some (.slice a l.length acap)/\RowC w L (.slice a l.length acap) l:=by
 obtain ⟨us,h1,h2,h3⟩:=h
 have hil:=(List.getElem?_eq_some_iff.1 hi).1
 obtain ⟨u,hu⟩:∃ u,us[i]?=some u:=⟨_,List.getElem?_eq_getElem (by omega)⟩
 have hr:=(h3 i l u hi hu).1
 obtain ⟨a,acap,rfl⟩:=hr.slice
 rcases h2.2 with ⟨_,h0⟩ | ⟨g,cap,cur,e,_⟩
 ·omega
 ·subst e
  refine ⟨g,cap,a,acap,rfl,?_,hr⟩
  have:=h2.cells (g:=g) rfl i _ hu
  rw [Go.WideShapes.add_plain,Nat.zero_add] at this
  exact this
theorem zRt{dec:Bool}{l:List CmdD}{ls:List (List CmdD)}{sc sc':Scan}(h:zCy dec (l :: ls) sc=some sc'):∃ r,zOc dec l sc (fun _=>false)=some r/\zCy dec ls r=some sc':=by
 rw [zCy] at h
 cases hr:zOc dec l sc (fun _=>false) with
 | none=>rw [hr] at h;cases h
 | some r=>rw [hr] at h;exact ⟨r,rfl,h⟩
structure LogI(dec:Bool)(w:World)(db ob nD nO:Nat)(ls:List (List CmdD))(sc':Scan)(j:Nat)(wr:World):Prop where
 md:Mod (twoB db ob) w wr
 ex:∃ sc nD' nO',zIr wr db ob nD' nO' sc/\nD'<=nD+1000*j/\nO'<=nO+1000*j/\zCy dec (ls.drop j) sc=some sc'
theorem logs4d(c0 c1 c2 c3 c4 c5 c6 c7 c10 c13 c15 c16 c17 c18 c19 c20 c21 c22 c23 c24 c25 c26 c27 c28 c29 c30 c31 c32 c33 c34 c35 c36 c37 c38 c39 c40 c41 c42 c43 c44 c45 c46 c47 c48 c49 c50 c51 c52 c53 c54 c55 c56 c57 c58 c59 c60 c61 c62 c63 c64 c65 c66 c67 c68 c69 c70 c71 c72 c73 c74 c75 c76 c77 c78 c79 c80 c81 c82 c83 c84 c85 c86 c87 c88 c89 c90 c91 c92 c93 c94 c95 c96 c97 c98 c99 c100 c101 c102 c103 c104 c105 c106 c107 c108 c109 c110 c111 c112 c113 c114 c115 c116 c117 c118 c119 c120 c121 c122 c123 c124 c125 c126 c127 c128 c129 c130 c131 c132 c133 c134 c135 c136 c137 c138 c139 c140 c141 c142 c143 c144 c145 c146 c147 c148 c149 c150 c151 c152 c153 c154 c155 c156 c157 c158 c159 c160:Value)(db ob nD nO B:Nat)(L:Lo)(va:Option Addr)(cap:Nat)(ls:List (List CmdD))(sc sc':Scan)(w:World)(hM:zIr w db ob nD nO sc)(hne:db≠ob)(hL:L.n<=db/\L.n<=ob)(hLw:L.n<=w.heap.size)(hlog:RowL w B L (.slice va ls.length cap) ls)(hs:zCy true ls sc=some sc')(hpw:ls.Pairwise fun a b=>b <+: a)(hl:ls.length<=4)(hll:∀ l∈ls,l.length<=1000)(hn:nD<=900000/\nO<=900000){R:Act->World->Prop}
  (hN:∀ (u4 u14 u15 u17 u72 u73 u74 u75 u76 u77 u78 u79 u80 u81 u82 u83 u84 u85 u86 u87 u88 u89 u90 u91 u92 u93 u94 u95 u96 u97 u98 u99 u100 u101 u102 u103 u104 u105 u106 u107 u108 u109 u110 u111 u112 u113 u114 u115 u116 u117 u118 u119 u120 u121 u122 u123 u124 u125 u126 u127 u128 u129 u130 u131 u132 u133 u134 u135 u136 u137 u138 u139 u140 u141 u142 u143 u144 u145 u146 u147 u148 u149 u150 u151 u152 u153 u154 u155 u156 u157 u158 u159 u160:Value) (wd:World),Mod (twoB db ob) w wd->(∃ nD' nO',nD'<=nD+4000/\nO'<=nO+4000/\zIr wd db ob nD' nO' sc')->R ⟨#[c0,c1,c2,c3,u4,c5,c6,c7,.map (some db),.map (some ob),c10,.int .i64 2,.slice va ls.length cap,c13,u14,u15,c16,u17,c18,c19,c20,c21,c22,c23,c24,c25,c26,c27,c28,c29,c30,c31,c32,c33,c34,c35,c36,c37,c38,c39,c40,c41,c42,c43,c44,c45,c46,c47,c48,c49,c50,c51,c52,c53,c54,c55,c56,c57,c58,c59,c60,c61,c62,c63,c64,c65,c66,c67,c68,c69,c70,c71,u72,u73,u74,u75,u76,u77,u78,u79,u80,u81,u82,u83,u84,u85,u86,u87,u88,u89,u90,u91,u92,u93,u94,u95,u96,u97,u98,u99,u100,u101,u102,u103,u104,u105,u106,u107,u108,u109,u110,u111,u112,u113,u114,u115,u116,u117,u118,u119,u120,u121,u122,u123,u124,u125,u126,u127,u128,u129,u130,u131,u132,u133,u134,u135,u136,u137,u138,u139,u140,u141,u142,u143,u144,u145,u146,u147,u148,u149,u150,u151,u152,u153,u154,u155,u156,u157,u158,u159,u160],[]⟩ wd) :
  Code.wp Tryz.prog ((Tryz.f5.body.bind (zEg 4)).getD .skip) (zEf R) ⟨#[c0,c1,c2,c3,c4,c5,c6,c7,.map (some db),.map (some ob),c10,.int .i64 2,.slice va ls.length cap,c13,.int .i64 0,c15,c16,c17,c18,c19,c20,c21,c22,c23,c24,c25,c26,c27,c28,c29,c30,c31,c32,c33,c34,c35,c36,c37,c38,c39,c40,c41,c42,c43,c44,c45,c46,c47,c48,c49,c50,c51,c52,c53,c54,c55,c56,c57,c58,c59,c60,c61,c62,c63,c64,c65,c66,c67,c68,c69,c70,c71,c72,c73,c74,c75,c76,c77,c78,c79,c80,c81,c82,c83,c84,c85,c86,c87,c88,c89,c90,c91,c92,c93,c94,c95,c96,c97,c98,c99,c100,c101,c102,c103,c104,c105,c106,c107,c108,c109,c110,c111,c112,c113,c114,c115,c116,c117,c118,c119,c120,c121,c122,c123,c124,c125,c126,c127,c128,c129,c130,c131,c132,c133,c134,c135,c136,c137,c138,c139,c140,c141,c142,c143,c144,c145,c146,c147,c148,c149,c150,c151,c152,c153,c154,c155,c156,c157,c158,c159,c160],[]⟩ w:=by
 conv=>arg 2;whnf
 have HN:=Hmq hN
 have H0:Hid (LogI true w db ob nD nO ls sc' 0 w):=⟨Mod.refl _ _,sc,nD,nO,hM,by omega,by omega,hs⟩
 have HM:=Hmq hM
 have HL:=Hmq hL
 have HLOG:=Hmq hlog
 have HPW:=Hmq hpw
 have hmm:=@run_makeMap Tryz.prog
 have HLL:=Hmq hll
 clear hN hM hL hlog hs hpw hll
 go_wp2_with fail
 go_loopw [14] (fun j0 wr=>∃ j:Nat,j<=ls.length/\j0=.int .i64 j/\LogI true w db ob nD nO ls sc' j wr) (fun j0 _=>ls.length - (intOf j0).toNat)
 case atStart=>exact ⟨0,Nat.zero_le _,rfl,H0.out⟩
 case round=>
  obtain ⟨j,hjl,rfl,hC⟩:=hrel
  clear H0
  obtain ⟨hmd,scj,nDj,nOj,hMj,hnd,hno,hsj⟩:=hC
  by_cases hlt:j<ls.length
  ·obtain ⟨l,hlj⟩:∃ l,ls[j]?=some l:=⟨_,List.getElem?_eq_getElem hlt⟩
   have hRL:=HM.out.rowL HL.out HLOG.out hmd
   obtain ⟨vb,vcap,a,acap,hva,q0,hrc⟩:=hRL.at hlj
   simp only [Value.slice.injEq] at hva
   obtain ⟨rfl,_,rfl⟩:=hva
   rw [zBt hlj] at hsj
   obtain ⟨scn,hsn,hsr⟩:=zRt hsj
   have hltI:(j:Int)<(ls.length:Int):=by omega
   have hj0:(0:Int)<=(j:Int):=by omega
   have HMD:=Hmq hmd
   have HMJ:=Hmq hMj
   have HRC:=Hmq hrc
   have HSN:=Hmq hsn
   have HSR:=Hmq hsr
   have HLEN:Hid (l.length<=1000):=HLL.out l (List.mem_of_getElem? hlj)
   have HBEG:Hid ((j=0)\/∃ (n:Nat) (lp:List CmdD) (a':Option Addr) (acap':Nat),(decide ((j:Int) > 0)=true/\0<j)/\(0:Int)<(j:Int)/\wrap64 ((j:Int) - 1)=(n:Int)/\IntKind.i64.wrap ((j:Int) - 1)=(n:Int)/\(0:Int)<=(n:Int)/\(n:Int)<(ls.length:Int)/\wr.cell? ⟨vb,n,none⟩=some (.slice a' lp.length acap')/\∀ wq,Mod zAb wr wq->Calls Tryz.prog 22 #[.slice a' lp.length acap',.slice a l.length acap] wq fun e w'=>e=.returned (.bool true)/\Mod zAb wq w'):=by
    by_cases hj:j=0
    ·exact .inl hj
    obtain ⟨lp,hlp⟩:∃ lp,ls[j - 1]?=some lp:=⟨_,List.getElem?_eq_getElem (by omega)⟩
    obtain ⟨vb',vcap',a',acap',hva',q0',hrc'⟩:=hRL.at hlp
    simp only [Value.slice.injEq,Option.some.injEq,Addr.mk.injEq] at hva'
    obtain ⟨⟨rfl,_⟩,_,rfl⟩:=hva'
    refine .inr ⟨j - 1,lp,a',acap',⟨decide_eq_true (by omega),by omega⟩,by omega,?_,?_,by omega,by omega,q0',fun wq hq=>zVt L L lp l _ _ wq (zHq.1 HPW.out (j - 1) j _ _ (by omega) hlp hlj) (hrc'.mod hq (Qm.none _ _) (fun _ _=>id)) (hrc.mod hq (Qm.none _ _) (fun _ _=>id)) (HLL.out lp (List.mem_of_getElem? hlp))⟩
    ·rw [show (j:Int) - 1=((j - 1:Nat):Int) by omega];exact IntWalk.wrap64_in _ ⟨by omega,by omega⟩
    ·rw [show (j:Int) - 1=((j - 1:Nat):Int) by omega];exact IntWalk.i64_in _ ⟨by omega,by omega⟩
   clear hmd hMj hsj hrc hsn hsr hRL hlj
   go_upto_region 23 with fail
   go_cut [92] from 72 to 160 (fun t wc=>t=.bool false/\Mod zAb wr wc)
   case first=>
    rcases HBEG.out with g0 | ⟨n,lp,a',acap',⟨g0,g2⟩,g1,ew,ew2,hn0,hnI,q1,hbg⟩
    ·clear HBEG
     subst g0
     go_quiet (fail)
     go_wp2_with fail
     go_meet
     case rel=>exact ⟨rfl,(Mod.refl _ wr).drewN _⟩
    ·have HBG:=Hmq hbg
     clear hbg
     refine wp_region_still_tail 12 (by kernel_rfl) (by kernel_rfl) ?_
     simp only [List.take_succ_cons,List.take_zero,List.drop_succ_cons,List.drop_zero]
     repeat still_step
     refine wpStill_nil ?_
     go_wp2_with fail
     refine (HBG.out _ (Mod.refl _ wr).drew).mono ?_
     rintro e w5 ⟨rfl,hm5⟩
     have HM5:Hid (Mod zAb wr w5):=(Mod.refl _ wr).drew.trans hm5
     clear hm5
     go_wp2_with fail
     go_meet
     case rel=>exact ⟨rfl,HM5.out⟩
   case rest=>
    obtain ⟨rfl,hmc⟩:=hcut
    have z0:=hmc.cell q0 id
    obtain ⟨w5,hw5⟩:∃ z,z=wc.alloc (.map #[] 0):=⟨_,rfl⟩
    have hm5:Mod zAb wr w5:=by rw [hw5];exact hmc.alloc _
    have z5:=hm5.cell q0 id
    have hp5:zCv w5 wc.heap.size 0 (fun _=>false):=by rw [hw5];exact zCv.made wc
    have HMP:Hid (zPb w5 db ob wc.heap.size nDj nOj 0 scj (fun _=>false)):=⟨HMJ.out.d.mod hm5 id,HMJ.out.o.mod hm5 id,hp5⟩
    have hzc:w.heap.size<=wc.heap.size:=Nat.le_trans HMD.out.size hmc.size
    have HNE:Hid (db≠ob/\db≠wc.heap.size/\ob≠wc.heap.size):=⟨hne,fun e=>by have:=HMJ.out.d.lt;have:=hmc.size;omega,fun e=>by have:=HMJ.out.o.lt;have:=hmc.size;omega⟩
    have HLO:Hid (L.n<=db/\L.n<=ob/\L.n<=wc.heap.size):=⟨HL.out.1,HL.out.2,by omega⟩
    have HR5:Hid (RowC w5 L (.slice a l.length acap) l):=HRC.out.mod hm5 (Qm.none _ _) (fun _ _=>id)
    have HNN:Hid (nDj<=1000000/\nOj<=1000000):=⟨by omega,by omega⟩
    have HFIN:Hid (∀ wd,Mod (zMy db ob wc.heap.size) w5 wd->(∃ nD' nO',nD'<=nDj+1000/\nO'<=nOj+1000/\zCv wd db nD' scn.D/\zIb wd ob nO' scn.O)->LogI true w db ob nD nO ls sc' (j+1) wd):=fun wd hmd' ⟨nD',nO',e1,e2,e3,e4⟩=>by
     refine ⟨?_,scn,nD',nO',⟨e3,e4⟩,by omega,by omega,HSR.out⟩
     refine (HMD.out.trans (hm5.mono (fun _ _ e=>e.elim))).trans' hmd' (fun i hi e=>?_)
     rcases e with e | e | e
     ·exact .inl e
     ·exact .inr e
     ·omega
    clear hmc hm5 hp5 HMJ HMD HRC
    go_upto_region 26 with fail
    rw [<-hw5]
    clear hw5
    go_upto_block 6 with fail
    refine wp_mono (Q:=zEf ?R2) (cmds6d _ _ _ _ _ _ _ _ _ _ _ _ _ _ _ _ _ _ _ _ _ _ _ _ _ _ _ _ _ _ _ _ _ _ _ _ _ _ _ _ _ _ _ _ _ _ _ _ _ _ _ _ _ _ _ _ _ _ _ _ _ _ _ _ _ _ _ _ _ _ _ _ _ _ _ _ _ _ _ _ _ _ _ _ _ _ _ _ _ _ _ _ _ _ _ _ _ _ _ _ _ _ _ _ _ _ _ _ _ _ _ _ _ _ _ _ _ _ _ _ _ _ _ _ _ _ _ _ _ _ _ _ _ _ _ _ _ _ _ _ _ _ _ _ _ _ _ _ _ _ _ _ _ _ db ob wc.heap.size nDj nOj L a acap l scj scn w5 HMP.out HNE.out HLO.out HR5.out HSN.out HLEN.out HNN.out (R:=?R2) ?hN) ?hE
    case hE=>
     intro e a' wd hq
     cases e with
     | normal=>exact hq
     | ret=>exact hq.elim
     | exit id=>exact hq.elim
     | goto l=>exact hq.elim
     | panic ch=>exact hq.elim
     | outgrown=>exact hq.elim
    case hN=>
     intro v4 v17 v99 v100 v101 v102 v103 v104 v105 v106 v107 v108 v109 v110 v111 v112 v113 v114 v115 v116 v117 v118 v119 v120 v121 v122 v123 v124 v125 v126 v127 v128 v129 v130 v131 v132 v133 v134 v135 v136 v137 v138 v139 v140 v141 v142 v143 v144 v145 v146 v147 v148 v149 v150 v151 v152 v153 v154 v155 v156 v157 v158 v159 v160 wd hmd' hex
     have HI:=Hmq (HFIN.out wd hmd' hex)
     clear hmd' hex HFIN
     rename_i Kc hKc
     refine hKc _ _ ?_
     clear hKc Kc
     go_wp2_with fail
     go_roundw
     case rel=>exact ⟨j+1,by omega,by go_num,HI.out⟩
     case measure=>simp [intOf];omega
  ·obtain rfl:j=ls.length:=by omega
   have hsc:scj=sc':=by rw [List.drop_length] at hsj;exact Option.some.inj hsj
   subst hsc
   have HF:Hid (∃ nD' nO',nD'<=nD+4000/\nO'<=nO+4000/\zIr wr db ob nD' nO' scj):=⟨nDj,nOj,by omega,by omega,hMj⟩
   have HMD:=Hmq hmd
   clear hmd hMj hsj
   go_wp2_with fail
   show R _ _
   apply HN.out
   ·exact HMD.out
   ·exact HF.out
theorem yPm(k:Int)(hk2:(k == 2)=false)(c0 c1 c2 c3 c4 c5 c6 c7 c10 c13 c15 c16 c17 c18 c19 c20 c21 c22 c23 c24 c25 c26 c27 c28 c29 c30 c31 c32 c33 c34 c35 c36 c37 c38 c39 c40 c41 c42 c43 c44 c45 c46 c47 c48 c49 c50 c51 c52 c53 c54 c55 c56 c57 c58 c59 c60 c61 c62 c63 c64 c65 c66 c67 c68 c69 c70 c71 c72 c73 c74 c75 c76 c77 c78 c79 c80 c81 c82 c83 c84 c85 c86 c87 c88 c89 c90 c91 c92 c93 c94 c95 c96 c97 c98 c99 c100 c101 c102 c103 c104 c105 c106 c107 c108 c109 c110 c111 c112 c113 c114 c115 c116 c117 c118 c119 c120 c121 c122 c123 c124 c125 c126 c127 c128 c129 c130 c131 c132 c133 c134 c135 c136 c137 c138 c139 c140 c141 c142 c143 c144 c145 c146 c147 c148 c149 c150 c151 c152 c153 c154 c155 c156 c157 c158 c159 c160:Value)(db ob nD nO B:Nat)(L:Lo)(va:Option Addr)(cap:Nat)(ls:List (List CmdD))(sc sc':Scan)(w:World)(hM:zIr w db ob nD nO sc)(hne:db≠ob)(hL:L.n<=db/\L.n<=ob)(hLw:L.n<=w.heap.size)(hlog:RowL w B L (.slice va ls.length cap) ls)(hs:zCy false ls sc=some sc')(hpw:ls.Pairwise fun a b=>b <+: a)(hl:ls.length<=4)(hll:∀ l∈ls,l.length<=1000)(hn:nD<=900000/\nO<=900000){R:Act->World->Prop}
  (hN:∀ (u4 u14 u15 u17 u72 u73 u74 u75 u76 u77 u78 u79 u80 u81 u82 u83 u84 u85 u86 u87 u88 u89 u90 u91 u92 u93 u94 u95 u96 u97 u98 u99 u100 u101 u102 u103 u104 u105 u106 u107 u108 u109 u110 u111 u112 u113 u114 u115 u116 u117 u118 u119 u120 u121 u122 u123 u124 u125 u126 u127 u128 u129 u130 u131 u132 u133 u134 u135 u136 u137 u138 u139 u140 u141 u142 u143 u144 u145 u146 u147 u148 u149 u150 u151 u152 u153 u154 u155 u156 u157 u158 u159 u160:Value) (wd:World),Mod (twoB db ob) w wd->(∃ nD' nO',nD'<=nD+4000/\nO'<=nO+4000/\zIr wd db ob nD' nO' sc')->R ⟨#[c0,c1,c2,c3,u4,c5,c6,c7,.map (some db),.map (some ob),c10,.int .i64 k,.slice va ls.length cap,c13,u14,u15,c16,u17,c18,c19,c20,c21,c22,c23,c24,c25,c26,c27,c28,c29,c30,c31,c32,c33,c34,c35,c36,c37,c38,c39,c40,c41,c42,c43,c44,c45,c46,c47,c48,c49,c50,c51,c52,c53,c54,c55,c56,c57,c58,c59,c60,c61,c62,c63,c64,c65,c66,c67,c68,c69,c70,c71,u72,u73,u74,u75,u76,u77,u78,u79,u80,u81,u82,u83,u84,u85,u86,u87,u88,u89,u90,u91,u92,u93,u94,u95,u96,u97,u98,u99,u100,u101,u102,u103,u104,u105,u106,u107,u108,u109,u110,u111,u112,u113,u114,u115,u116,u117,u118,u119,u120,u121,u122,u123,u124,u125,u126,u127,u128,u129,u130,u131,u132,u133,u134,u135,u136,u137,u138,u139,u140,u141,u142,u143,u144,u145,u146,u147,u148,u149,u150,u151,u152,u153,u154,u155,u156,u157,u158,u159,u160],[]⟩ wd) :
  Code.wp Tryz.prog ((Tryz.f5.body.bind (zEg 4)).getD .skip) (zEf R) ⟨#[c0,c1,c2,c3,c4,c5,c6,c7,.map (some db),.map (some ob),c10,.int .i64 k,.slice va ls.length cap,c13,.int .i64 0,c15,c16,c17,c18,c19,c20,c21,c22,c23,c24,c25,c26,c27,c28,c29,c30,c31,c32,c33,c34,c35,c36,c37,c38,c39,c40,c41,c42,c43,c44,c45,c46,c47,c48,c49,c50,c51,c52,c53,c54,c55,c56,c57,c58,c59,c60,c61,c62,c63,c64,c65,c66,c67,c68,c69,c70,c71,c72,c73,c74,c75,c76,c77,c78,c79,c80,c81,c82,c83,c84,c85,c86,c87,c88,c89,c90,c91,c92,c93,c94,c95,c96,c97,c98,c99,c100,c101,c102,c103,c104,c105,c106,c107,c108,c109,c110,c111,c112,c113,c114,c115,c116,c117,c118,c119,c120,c121,c122,c123,c124,c125,c126,c127,c128,c129,c130,c131,c132,c133,c134,c135,c136,c137,c138,c139,c140,c141,c142,c143,c144,c145,c146,c147,c148,c149,c150,c151,c152,c153,c154,c155,c156,c157,c158,c159,c160],[]⟩ w:=by
 conv=>arg 2;whnf
 have HN:=Hmq hN
 have H0:Hid (LogI false w db ob nD nO ls sc' 0 w):=⟨Mod.refl _ _,sc,nD,nO,hM,by omega,by omega,hs⟩
 have HM:=Hmq hM
 have HL:=Hmq hL
 have HLOG:=Hmq hlog
 have HPW:=Hmq hpw
 have hmm:=@run_makeMap Tryz.prog
 have HLL:=Hmq hll
 clear hN hM hL hlog hs hpw hll
 go_wp2_with fail
 go_loopw [14] (fun j0 wr=>∃ j:Nat,j<=ls.length/\j0=.int .i64 j/\LogI false w db ob nD nO ls sc' j wr) (fun j0 _=>ls.length - (intOf j0).toNat)
 case atStart=>exact ⟨0,Nat.zero_le _,rfl,H0.out⟩
 case round=>
  obtain ⟨j,hjl,rfl,hC⟩:=hrel
  clear H0
  obtain ⟨hmd,scj,nDj,nOj,hMj,hnd,hno,hsj⟩:=hC
  by_cases hlt:j<ls.length
  ·obtain ⟨l,hlj⟩:∃ l,ls[j]?=some l:=⟨_,List.getElem?_eq_getElem hlt⟩
   have hRL:=HM.out.rowL HL.out HLOG.out hmd
   obtain ⟨vb,vcap,a,acap,hva,q0,hrc⟩:=hRL.at hlj
   simp only [Value.slice.injEq] at hva
   obtain ⟨rfl,_,rfl⟩:=hva
   rw [zBt hlj] at hsj
   obtain ⟨scn,hsn,hsr⟩:=zRt hsj
   have hltI:(j:Int)<(ls.length:Int):=by omega
   have hj0:(0:Int)<=(j:Int):=by omega
   have HMD:=Hmq hmd
   have HMJ:=Hmq hMj
   have HRC:=Hmq hrc
   have HSN:=Hmq hsn
   have HSR:=Hmq hsr
   have HLEN:Hid (l.length<=1000):=HLL.out l (List.mem_of_getElem? hlj)
   have HBEG:Hid ((j=0)\/∃ (n:Nat) (lp:List CmdD) (a':Option Addr) (acap':Nat),(decide ((j:Int) > 0)=true/\0<j)/\(0:Int)<(j:Int)/\wrap64 ((j:Int) - 1)=(n:Int)/\IntKind.i64.wrap ((j:Int) - 1)=(n:Int)/\(0:Int)<=(n:Int)/\(n:Int)<(ls.length:Int)/\wr.cell? ⟨vb,n,none⟩=some (.slice a' lp.length acap')/\∀ wq,Mod zAb wr wq->Calls Tryz.prog 22 #[.slice a' lp.length acap',.slice a l.length acap] wq fun e w'=>e=.returned (.bool true)/\Mod zAb wq w'):=by
    by_cases hj:j=0
    ·exact .inl hj
    obtain ⟨lp,hlp⟩:∃ lp,ls[j - 1]?=some lp:=⟨_,List.getElem?_eq_getElem (by omega)⟩
    obtain ⟨vb',vcap',a',acap',hva',q0',hrc'⟩:=hRL.at hlp
    simp only [Value.slice.injEq,Option.some.injEq,Addr.mk.injEq] at hva'
    obtain ⟨⟨rfl,_⟩,_,rfl⟩:=hva'
    refine .inr ⟨j - 1,lp,a',acap',⟨decide_eq_true (by omega),by omega⟩,by omega,?_,?_,by omega,by omega,q0',fun wq hq=>zVt L L lp l _ _ wq (zHq.1 HPW.out (j - 1) j _ _ (by omega) hlp hlj) (hrc'.mod hq (Qm.none _ _) (fun _ _=>id)) (hrc.mod hq (Qm.none _ _) (fun _ _=>id)) (HLL.out lp (List.mem_of_getElem? hlp))⟩
    ·rw [show (j:Int) - 1=((j - 1:Nat):Int) by omega];exact IntWalk.wrap64_in _ ⟨by omega,by omega⟩
    ·rw [show (j:Int) - 1=((j - 1:Nat):Int) by omega];exact IntWalk.i64_in _ ⟨by omega,by omega⟩
   clear hmd hMj hsj hrc hsn hsr hRL hlj
   go_upto_region 23 with fail
   go_cut [92] from 72 to 160 (fun t wc=>t=.bool false/\Mod zAb wr wc)
   case first=>
    rcases HBEG.out with g0 | ⟨n,lp,a',acap',⟨g0,g2⟩,g1,ew,ew2,hn0,hnI,q1,hbg⟩
    ·clear HBEG
     subst g0
     go_quiet (fail)
     go_wp2_with fail
     go_meet
     case rel=>exact ⟨rfl,(Mod.refl _ wr).drewN _⟩
    ·have HBG:=Hmq hbg
     clear hbg
     refine wp_region_still_tail 12 (by kernel_rfl) (by kernel_rfl) ?_
     simp only [List.take_succ_cons,List.take_zero,List.drop_succ_cons,List.drop_zero]
     repeat still_step
     refine wpStill_nil ?_
     go_wp2_with fail
     refine (HBG.out _ (Mod.refl _ wr).drew).mono ?_
     rintro e w5 ⟨rfl,hm5⟩
     have HM5:Hid (Mod zAb wr w5):=(Mod.refl _ wr).drew.trans hm5
     clear hm5
     go_wp2_with fail
     go_meet
     case rel=>exact ⟨rfl,HM5.out⟩
   case rest=>
    obtain ⟨rfl,hmc⟩:=hcut
    have z0:=hmc.cell q0 id
    obtain ⟨w5,hw5⟩:∃ z,z=wc.alloc (.map #[] 0):=⟨_,rfl⟩
    have hm5:Mod zAb wr w5:=by rw [hw5];exact hmc.alloc _
    have z5:=hm5.cell q0 id
    have hp5:zCv w5 wc.heap.size 0 (fun _=>false):=by rw [hw5];exact zCv.made wc
    have HMP:Hid (zPb w5 db ob wc.heap.size nDj nOj 0 scj (fun _=>false)):=⟨HMJ.out.d.mod hm5 id,HMJ.out.o.mod hm5 id,hp5⟩
    have hzc:w.heap.size<=wc.heap.size:=Nat.le_trans HMD.out.size hmc.size
    have HNE:Hid (db≠ob/\db≠wc.heap.size/\ob≠wc.heap.size):=⟨hne,fun e=>by have:=HMJ.out.d.lt;have:=hmc.size;omega,fun e=>by have:=HMJ.out.o.lt;have:=hmc.size;omega⟩
    have HLO:Hid (L.n<=db/\L.n<=ob/\L.n<=wc.heap.size):=⟨HL.out.1,HL.out.2,by omega⟩
    have HR5:Hid (RowC w5 L (.slice a l.length acap) l):=HRC.out.mod hm5 (Qm.none _ _) (fun _ _=>id)
    have HNN:Hid (nDj<=1000000/\nOj<=1000000):=⟨by omega,by omega⟩
    have HFIN:Hid (∀ wd,Mod (zMy db ob wc.heap.size) w5 wd->(∃ nD' nO',nD'<=nDj+1000/\nO'<=nOj+1000/\zCv wd db nD' scn.D/\zIb wd ob nO' scn.O)->LogI false w db ob nD nO ls sc' (j+1) wd):=fun wd hmd' ⟨nD',nO',e1,e2,e3,e4⟩=>by
     refine ⟨?_,scn,nD',nO',⟨e3,e4⟩,by omega,by omega,HSR.out⟩
     refine (HMD.out.trans (hm5.mono (fun _ _ e=>e.elim))).trans' hmd' (fun i hi e=>?_)
     rcases e with e | e | e
     ·exact .inl e
     ·exact .inr e
     ·omega
    clear hmc hm5 hp5 HMJ HMD HRC
    go_upto_region 26 with fail
    rw [<-hw5]
    clear hw5
    go_upto_block 6 with fail
    refine wp_mono (Q:=zEf ?R2) (cmds6s k hk2 _ _ _ _ _ _ _ _ _ _ _ _ _ _ _ _ _ _ _ _ _ _ _ _ _ _ _ _ _ _ _ _ _ _ _ _ _ _ _ _ _ _ _ _ _ _ _ _ _ _ _ _ _ _ _ _ _ _ _ _ _ _ _ _ _ _ _ _ _ _ _ _ _ _ _ _ _ _ _ _ _ _ _ _ _ _ _ _ _ _ _ _ _ _ _ _ _ _ _ _ _ _ _ _ _ _ _ _ _ _ _ _ _ _ _ _ _ _ _ _ _ _ _ _ _ _ _ _ _ _ _ _ _ _ _ _ _ _ _ _ _ _ _ _ _ _ _ _ _ _ _ _ _ _ db ob wc.heap.size nDj nOj L a acap l scj scn w5 HMP.out HNE.out HLO.out HR5.out HSN.out HLEN.out HNN.out (R:=?R2) ?hN) ?hE
    case hE=>
     intro e a' wd hq
     cases e with
     | normal=>exact hq
     | ret=>exact hq.elim
     | exit id=>exact hq.elim
     | goto l=>exact hq.elim
     | panic ch=>exact hq.elim
     | outgrown=>exact hq.elim
    case hN=>
     intro v4 v17 v99 v100 v101 v102 v103 v104 v105 v106 v107 v108 v109 v110 v111 v112 v113 v114 v115 v116 v117 v118 v119 v120 v121 v122 v123 v124 v125 v126 v127 v128 v129 v130 v131 v132 v133 v134 v135 v136 v137 v138 v139 v140 v141 v142 v143 v144 v145 v146 v147 v148 v149 v150 v151 v152 v153 v154 v155 v156 v157 v158 v159 v160 wd hmd' hex
     have HI:=Hmq (HFIN.out wd hmd' hex)
     clear hmd' hex HFIN
     rename_i Kc hKc
     refine hKc _ _ ?_
     clear hKc Kc
     go_wp2_with fail
     go_roundw
     case rel=>exact ⟨j+1,by omega,by go_num,HI.out⟩
     case measure=>simp [intOf];omega
  ·obtain rfl:j=ls.length:=by omega
   have hsc:scj=sc':=by rw [List.drop_length] at hsj;exact Option.some.inj hsj
   subst hsc
   have HF:Hid (∃ nD' nO',nD'<=nD+4000/\nO'<=nO+4000/\zIr wr db ob nD' nO' scj):=⟨nDj,nOj,by omega,by omega,hMj⟩
   have HMD:=Hmq hmd
   clear hmd hMj hsj
   go_wp2_with fail
   show R _ _
   apply HN.out
   ·exact HMD.out
   ·exact HF.out
theorem StoR.after{w w1 w2:World}{n c d gs g:Nat}{y y1:HLay}{xv:Value}{vs:List Value}{s':StoS}(h:zBv w y w1 y1)(k:StoR w1 n c gs g y1 xv vs s' w2)(hc:c<=d):StoR w n d gs g y xv vs s' w2:=by
 obtain ⟨y2,xv2,vs2,h1,h2⟩:=k
 exact ⟨y2,xv2,vs2,h1.more hc,(StoM.steps h).trans h2⟩
theorem StoR.only{w w1:World}{n c d gs g:Nat}{y y1:HLay}{xv:Value}{vs:List Value}{s':StoS}(h:zBv w y w1 y1)(k:StoP w1 n c gs g y1 xv vs s')(hc:c<=d):StoR w n d gs g y xv vs s' w1:=⟨y1,xv,vs,k.more hc,StoM.steps h⟩
section
variable {w:World} {n c m gs g:Nat} {y:HLay} {xv:Value} {vs:List Value} {s:StoS} {xb:Nat} {x:ActD}
theorem sw0a(hp:zCd w n c m gs g y xv vs s xb x)(fr:Act)(hf:SwF fr gs xb (idS s x) (keyX x) x.what)(hw:x.what=0)(ha:s.txs.length<7):SwP w n c gs g y xv vs (armS s x) fr:=by
 intro R hN
 conv=>arg 2;whnf
 obtain ⟨f,rfl⟩:=hf.lit
 rw [hw]
 have hA:armS s x={ s with h:=zFl s.h,txs:=s.txs++[⟨[],s.now,-1⟩] }:=by unfold armS;simp [hw,ha]
 rw [hA] at hN
 have c0:=(blkS hp.sto.blk).1
 have zg:=hp.sto.blk.lt
 have HN:=Hmq hN
 obtain ⟨xa,xcap,hxv⟩:=zAf hp.sto.row.2
 subst hxv
 have c1:=(blkS hp.sto.blk).2.1
 have HB:=Hmq hp.begin
 have HG:=Hmq hp.lg
 obtain ⟨tl,htl⟩:∃ z,z=s.txs.length:=⟨_,rfl⟩
 have HTL:=Hmq htl
 rw [<-htl] at ha c1 HB
 have hb:decide ((tl:Int)<7)=true:=decide_eq_true (by omega)
 have hb2:(tl:Int)<7:=by omega
 have ew:wrap64 ((tl:Int)+1)=(tl:Int)+1:=IntWalk.wrap64_in _ ⟨by omega,by omega⟩
 clear hN hp hf hA htl
 go_wp2_with fail
 refine (HB.out _ (Mod.refl _ _)).mono ?_
 rintro e w1 ⟨rfl,y1,hs1,hst⟩
 have d1:=(blkS hs1.blk).2.1
 have zg1:=hs1.blk.lt
 rw [HTL.out] at hs1
 have HS1:=Hmq hs1
 have HST:=Hmq hst
 have htl7:s.txs.length<=100:=by rw [<-HTL.out];omega
 clear hs1 hst HB c0 c1
 go_upto_region 11 with fail
 refine wp_mono (Q:=zEf ?R2) (reg11 (R:=?R2) n c gs g y1 _ vs _ w1 HS1.out HG.out htl7 _ ⟨rfl,rfl,rfl⟩ ?hN) ?hE
 case hE=>
  intro e a' wd hq
  cases e with
  | normal=>exact hq
  | ret=>exact hq.elim
  | exit id=>exact hq.elim
  | goto l=>exact hq.elim
  | panic ch=>exact hq.elim
  | outgrown=>exact hq.elim
 case hN=>
  intro fr' wd hf' hr
  exact HN.out fr' wd hf' (StoR.after HST.out hr (by omega))
theorem sw0b(hp:zCd w n c m gs g y xv vs s xb x)(fr:Act)(hf:SwF fr gs xb (idS s x) (keyX x) x.what)(hw:x.what=0)(ha:¬ s.txs.length<7):SwP w n c gs g y xv vs (armS s x) fr:=by
 intro R hN
 conv=>arg 2;whnf
 obtain ⟨f,rfl⟩:=hf.lit
 rw [hw]
 have hA:armS s x=s:=by unfold armS;simp [hw,ha]
 rw [hA] at hN
 have c0:=(blkS hp.sto.blk).1
 have zg:=hp.sto.blk.lt
 have HN:=Hmq hN
 have HR:=Hmq (StoR.refl hp.sto (Mod.refl _ _))
 obtain ⟨xa,xcap,hxv⟩:=zAf hp.sto.row.2
 subst hxv
 have c1:=(blkS hp.sto.blk).2.1
 obtain ⟨tl,htl⟩:∃ z,z=s.txs.length:=⟨_,rfl⟩
 rw [<-htl] at ha c1 HR HN
 have hb:decide ((tl:Int)<7)=false:=decide_eq_false (by omega)
 have hb2:¬ (tl:Int)<7:=by omega
 clear hN hp hf hA htl
 go_wp2_with fail
 show R _ _
 exact HN.out _ _ ⟨rfl,rfl,rfl⟩ HR.out
theorem zPa{txs:List TxD}{i:Nat}{t:TxD}(h:txs[i]?=some t)(o:OpD):zQf txs (i+1) o=txs.set i ⟨t.ops++[o],t.frm,t.til⟩:=by
 unfold zQf
 rw [Nat.add_sub_cancel,h]
theorem yAc{s:StoS}{x:ActD}(h:0<idS s x):∃ i t,idS s x=i+1/\s.txs[i]?=some t:=by
 unfold idS at h ⊢
 split at h
 ·rename_i e
  rw [if_pos e]
  have:=zKc x.tx s.txs.length e
  exact ⟨zDw x.tx s.txs.length,_,by omega,List.getElem?_eq_getElem this⟩
 ·omega
theorem sw1a(hp:zCd w n c m gs g y xv vs s xb x)(fr:Act)(hf:SwF fr gs xb (idS s x) (keyX x) x.what)(hw:x.what=1)(ha:(getH s.h (idS s x:Nat) (keyX x)).2.2.2=0)(hi:0<idS s x):SwP w n c gs g y xv vs (armS s x) fr:=by
 intro R hN
 conv=>arg 2;whnf
 obtain ⟨f,rfl⟩:=hf.lit
 rw [hw]
 have hA:armS s x={ s with h:=(getH s.h (idS s x:Nat) (keyX x)).1,txs:=zQf s.txs (idS s x) ⟨1,keyX x,(getH s.h (idS s x:Nat) (keyX x)).2.1,(getH s.h (idS s x:Nat) (keyX x)).2.2.1⟩ }:=by unfold armS;simp [hw,ha,hi]
 rw [hA] at hN
 have c0:=(blkS hp.sto.blk).1
 have zg:=hp.sto.blk.lt
 have HN:=Hmq hN
 obtain ⟨i,t,hid,hit⟩:=yAc hi
 obtain ⟨xb',xcap,hxv⟩:=hp.sto.x_slice hit
 subst hxv
 have HG:=Hmq hp.lg
 have HC:=Hmq (hp.get (idS s x:Nat) (keyX x) (zJe x))
 have HOP:Hid (t.ops.length<=1000):=by have:=hp.opl t (List.mem_of_getElem? hit);have:=hp.mm;unfold Hid;omega
 have HTS:Hid (s.txs.length<=100):=by have:=hp.ok.few;unfold Hid;omega
 rw [ha,zAz] at HC
 rw [hid] at HC HN ⊢
 rw [zPa hit] at HN
 obtain ⟨key,hkey⟩:∃ z,z=keyX x:=⟨_,rfl⟩
 rw [<-hkey] at HC HN ⊢
 obtain ⟨r,hr0⟩:∃ z,z=getH s.h ((i+1:Nat):Int) key:=⟨_,rfl⟩
 rw [<-hr0] at HC HN
 obtain ⟨id,hidI⟩:∃ z:Int,z=((i+1:Nat):Int):=⟨_,rfl⟩
 rw [<-hidI] at HC ⊢
 have hb:decide (id > 0)=true:=decide_eq_true (by omega)
 have hb2:0<id:=by omega
 have HID:Hid (id=(i:Int)+1):=by unfold Hid;omega
 have HT:=Hmq hit
 clear hN hp hf hA hidI hr0 hkey hid hi ha hit
 go_wp2_with fail
 refine (HC.out _ (Mod.refl _ _)).mono ?_
 rintro e w1 ⟨rfl,y1,hs1,hst⟩
 have HS1:=Hmq hs1
 have HST:=Hmq hst
 clear hs1 hst HC c0
 go_upto_region 15 with fail
 refine wp_mono (Q:=zEf ?R2) (reg15 (R:=?R2) n (c+2) gs g xb' xcap i id key r.2.1 r.2.2.1 t y1 vs { s with h:=r.1 } w1 HS1.out HG.out HT.out HID.out HTS.out HOP.out _ ⟨rfl,rfl,rfl⟩ rfl rfl rfl rfl ?hN) ?hE
 case hE=>
  intro e a' wd hq
  cases e with
  | normal=>exact hq
  | ret=>exact hq.elim
  | exit id=>exact hq.elim
  | goto l=>exact hq.elim
  | panic ch=>exact hq.elim
  | outgrown=>exact hq.elim
 case hN=>
  intro fr' wd hf' hr
  exact HN.out fr' wd hf' (StoR.after HST.out hr (by omega))
theorem sw1b(hp:zCd w n c m gs g y xv vs s xb x)(fr:Act)(hf:SwF fr gs xb (idS s x) (keyX x) x.what)(hw:x.what=1)(ha:¬ ((getH s.h (idS s x:Nat) (keyX x)).2.2.2=0/\0<idS s x)):SwP w n c gs g y xv vs (armS s x) fr:=by
 intro R hN
 conv=>arg 2;whnf
 obtain ⟨f,rfl⟩:=hf.lit
 rw [hw]
 have hA:armS s x={ s with h:=(getH s.h (idS s x:Nat) (keyX x)).1 }:=by unfold armS;simp [hw,ha]
 rw [hA] at hN
 have c0:=(blkS hp.sto.blk).1
 have zg:=hp.sto.blk.lt
 have HN:=Hmq hN
 have HC:=Hmq (hp.get (idS s x:Nat) (keyX x) (zJe x))
 obtain ⟨key,hkey⟩:∃ z,z=keyX x:=⟨_,rfl⟩
 rw [<-hkey] at HC HN ha ⊢
 obtain ⟨r,hr0⟩:∃ z,z=getH s.h ((idS s x:Nat):Int) key:=⟨_,rfl⟩
 rw [<-hr0] at HC HN ha
 obtain ⟨id,hidI⟩:∃ z:Int,z=((idS s x:Nat):Int):=⟨_,rfl⟩
 rw [<-hidI] at HC ⊢
 have hcase:(r.2.2.2=0/\id=0)\/r.2.2.2≠0:=by
  by_cases e:r.2.2.2=0
  ·exact .inl ⟨e,by have:¬ 0<idS s x:=fun q=>ha ⟨e,q⟩;omega⟩
  ·exact .inr e
 clear hN hp hf hA hidI hr0 hkey ha
 rcases hcase with ⟨e1,rfl⟩ | e1
 ·rw [e1,zAz] at HC
  clear e1
  go_wp2_with fail
  refine (HC.out _ (Mod.refl _ _)).mono ?_
  rintro e w1 ⟨rfl,y1,hs1,hst⟩
  have HR:=Hmq (StoR.only (d:=c+2) hst hs1 (by omega))
  clear hs1 hst HC c0
  go_wp2_with fail
  show R _ _
  exact HN.out _ _ ⟨rfl,rfl,rfl⟩ HR.out
 ·rw [zBb e1] at HC
  clear e1
  go_wp2_with fail
  refine (HC.out _ (Mod.refl _ _)).mono ?_
  rintro e w1 ⟨rfl,y1,hs1,hst⟩
  have HR:=Hmq (StoR.only (d:=c+2) hst hs1 (by omega))
  clear hs1 hst HC c0
  go_wp2_with fail
  show R _ _
  exact HN.out _ _ ⟨rfl,rfl,rfl⟩ HR.out
theorem swN(hp:zCd w n c m gs g y xv vs s xb x)(fr:Act)(hf:SwF fr gs xb (idS s x) (keyX x) x.what)(hw:∀ k:Nat,k<13->x.what≠k):SwP w n c gs g y xv vs (armS s x) fr:=by
 intro R hN
 conv=>arg 2;whnf
 obtain ⟨f,rfl⟩:=hf.lit
 have hA:armS s x=s:=by
  unfold armS
  have h0:=hw 0 (by omega)
  have h1:=hw 1 (by omega)
  have h2:=hw 2 (by omega)
  have h3:=hw 3 (by omega)
  have h4:=hw 4 (by omega)
  have h5:=hw 5 (by omega)
  have h6:=hw 6 (by omega)
  have h7:=hw 7 (by omega)
  have h8:=hw 8 (by omega)
  have h9:=hw 9 (by omega)
  have h10:=hw 10 (by omega)
  have h11:=hw 11 (by omega)
  have h12:=hw 12 (by omega)
  simp at h0 h1 h2 h3 h4 h5 h6 h7 h8 h9 h10 h11 h12
  simp [h0,h1,h2,h3,h4,h5,h6,h7,h8,h9,h10,h11,h12]
 rw [hA] at hN
 have HR:=Hmq (StoR.refl hp.sto (Mod.refl _ _))
 have HN:=Hmq hN
 obtain ⟨wh,hwh⟩:∃ z,z=x.what:=⟨_,rfl⟩
 rw [<-hwh] at hw ⊢
 have h0:(wh == 0)=false:=by have:=hw 0 (by omega);simpa using this
 have h1:(wh == 1)=false:=by have:=hw 1 (by omega);simpa using this
 have h2:(wh == 2)=false:=by have:=hw 2 (by omega);simpa using this
 have h3:(wh == 3)=false:=by have:=hw 3 (by omega);simpa using this
 have h4:(wh == 4)=false:=by have:=hw 4 (by omega);simpa using this
 have h5:(wh == 5)=false:=by have:=hw 5 (by omega);simpa using this
 have h6:(wh == 6)=false:=by have:=hw 6 (by omega);simpa using this
 have h7:(wh == 7)=false:=by have:=hw 7 (by omega);simpa using this
 have h8:(wh == 8)=false:=by have:=hw 8 (by omega);simpa using this
 have h9:(wh == 9)=false:=by have:=hw 9 (by omega);simpa using this
 have h10:(wh == 10)=false:=by have:=hw 10 (by omega);simpa using this
 have h11:(wh == 11)=false:=by have:=hw 11 (by omega);simpa using this
 have h12:(wh == 12)=false:=by have:=hw 12 (by omega);simpa using this
 clear hN hp hf hA hwh hw
 go_wp2_with fail
 show R _ _
 exact HN.out _ _ ⟨rfl,rfl,rfl⟩ HR.out
end
end Go.Proofs.YtmaiggbnceejiaaGreatDoor
