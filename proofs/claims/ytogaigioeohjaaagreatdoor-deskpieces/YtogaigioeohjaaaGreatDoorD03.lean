import Derived.Test.YtogaigioeohjaaaGreatDoorD02
import Derived.Deep.AppendLies
import Derived.Deep.DeepCutAuto
import Derived.Laws.IdiomCopy
import Derived.Deep.RegionLaw
import Derived.Deep.CutBlock
set_option linter.unusedVariables false
set_option maxRecDepth 100000
set_option maxHeartbeats 16000000
namespace Go.Proofs.YtogaigioeohjaaaGreatDoor
open Go.RowKit Go.Lib Go.Maps
variable {E:Ext}
theorem Tryz.info110:(Tryz.prog.info? 110).map (fun i=>(i.zero,i.size,i.bytes))=some (some (.agg #[.int .i64 0,.int .i64 0,.int .i64 0,.int .i64 0,.int .i64 0,.int .i64 0,.int .i64 0,.int .i64 0,.slice none 0 0]),9,88):=by kernel_rfl
def yEu(w:World)(L:Lo)(S:Nat->Prop)(v:Value)(ms:List MsgD):Prop:=
 ∃ a cap,v=.slice a ms.length cap/\ms.length<=cap/\cap<=maxLen /\
  (ms=[]\/∃ b off,a=some ⟨b,off,none⟩/\S b/\∀ (i:Nat) m,ms[i]?=some m->∃ u,zAy w L u m.cmd.writes/\zJg m/\∀ j x,(zAt m u)[j]?=some x->w.cell? ⟨b,off+i*9+j,none⟩=some x)
theorem yEu.mod{G S:Nat->Prop}{w w':World}{L:Lo}{v:Value}{ms:List MsgD}(h:yEu w L S v ms)(hm:Mod G w w')(hq:Qm w L G)(hG:∀ k,S k->¬ G k):yEu w' L S v ms:=by
 obtain ⟨a,cap,h1,h2,h3,h4⟩:=h
 refine ⟨a,cap,h1,h2,h3,?_⟩
 rcases h4 with h4 | ⟨b,off,h5,h6,h7⟩
 ·exact .inl h4
 ·refine .inr ⟨b,off,h5,h6,fun i m hi=>?_⟩
  obtain ⟨u,h8,h9,h10⟩:=h7 i m hi
  exact ⟨u,h8.mod hm hq,h9,fun j x hx=>hm.cell (h10 j x hx) (hG b h6)⟩
def zFe(s:NetS)(m:MsgD):NetS:=if zDx s.down m || decide (200<=s.way.length) then ⟨s.way,s.lost+1,s.down⟩ else ⟨s.way++[m],s.lost,s.down⟩
def zFd:NetS->List MsgD->NetS
 | s,[]=>s
 | s,m :: ms=>zFd (zFe s m) ms
theorem zUx:∀ ms m s,zFd s (ms++[m])=zFe (zFd s ms) m
 | [],_,_=>rfl
 | _ :: ms,m,s=>by simp [zFd,zUx ms m]
theorem zUy(s:NetS)(m:MsgD):(zFe s m).down=s.down:=by unfold zFe;split <;> rfl
theorem yHe(s:NetS)(m:MsgD):s.lost<=(zFe s m).lost/\(zFe s m).lost<=s.lost+1:=by unfold zFe;split <;> simp only <;> omega
theorem zFc:∀ ms s,s.lost<=(zFd s ms).lost/\(zFd s ms).lost<=s.lost+ms.length
 | [],s=>by simp [zFd]
 | m :: ms,s=>by
  have h1:=yHe s m
  have h2:=zFc ms (zFe s m)
  simp only [zFd,List.length_cons];omega
def zCf(w:World)(v v':Value):Prop:=v'.ownBlock=v.ownBlock\/∀ k,v'.ownBlock=some k->w.heap.size<=k
theorem zCf.refl(w:World)(v:Value):zCf w v v:=.inl rfl
theorem zCf.trans{w w1:World}{a b c:Value}(h:zCf w a b)(k:zCf w1 b c)(hz:w.heap.size<=w1.heap.size):zCf w a c:=by
 rcases k with k | k
 ·rcases h with h | h
  ·exact .inl (k.trans h)
  ·exact .inr (fun x hx=>h x (by rw [<-k];exact hx))
 ·exact .inr (fun x hx=>Nat.le_trans hz (k x hx))
theorem Mod.net{w w1 w2:World}{g:Nat}{v v':Value}{mr:Option Nat}(h:Mod (zDi g v mr) w w1)(hm:zCf w v v')(k:Mod (zDi g v' mr) w1 w2):Mod (zDi g v mr) w w2:=
 h.trans' k (fun i hi e=>by
  rcases e with e | e | e
  ·exact .inl e
  ·rcases hm with hm | hm
   ·exact .inr (.inl (by rw [<-hm];exact e))
   ·have:=hm i e;omega
  ·exact .inr (.inr e))
theorem NetP.apart{w:World}{L:Lo}{g:Nat}{wv:Value}{mr:Option Nat}{s:NetS}(h:NetP E w L g wv mr s):wv.ownBlock≠some g/\mr≠some g/\∀ k,wv.ownBlock=some k->mr≠some k:=by
 have hb:=h.blk
 simp only [Blk] at hb
 refine ⟨fun e=>?_,fun e=>?_,fun k e e'=>?_⟩
 ·obtain ⟨us,_,h2,_⟩:=h.row
  rcases h2.2 with ⟨e',_⟩ | ⟨g',cap,cur,e',_,hg,_⟩
  ·rw [e'] at e;simp [Value.ownBlock] at e
  ·rw [e'] at e;simp [Value.ownBlock] at e;subst e
   rw [hb] at hg;simp at hg
 ·rcases h.dn with ⟨e',_⟩ | ⟨b,D,e',_,⟨es,clock,hm,_⟩,_⟩
  ·rw [e'] at e;cases e
  ·rw [e'] at e;cases e
   rw [hb] at hm;simp at hm
 ·obtain ⟨us,_,h2,_⟩:=h.row
  rcases h2.2 with ⟨e1,_⟩ | ⟨g',cap,cur,e1,_,hg,_⟩
  ·rw [e1] at e;simp [Value.ownBlock] at e
  ·rw [e1] at e;simp [Value.ownBlock] at e;subst e
   rcases h.dn with ⟨e2,_⟩ | ⟨b,D,e2,_,⟨es,clock,hm,_⟩,_⟩
   ·rw [e2] at e';cases e'
   ·rw [e2] at e';cases e'
    rw [hg] at hm;simp at hm
theorem NetP.not_blk{w:World}{L:Lo}{g q:Nat}{wv:Value}{mr:Option Nat}{s:NetS}{cs:List Value}{t:TypeId}(h:NetP E w L g wv mr s)(hq:Blk w q cs t)(h1:t≠90)(h2:t≠110):¬ zDi g wv mr q:=by
 simp only [Blk] at hq
 rintro (rfl | e | e)
 ·have hb:=h.blk
  simp only [Blk] at hb
  rw [hb] at hq;simp at hq;exact h1 hq.2.symm
 ·obtain ⟨us,_,h3,_⟩:=h.row
  rcases h3.2 with ⟨e',_⟩ | ⟨g',cap,cur,e',_,hg,_⟩
  ·rw [e'] at e;simp [Value.ownBlock] at e
  ·rw [e'] at e;simp [Value.ownBlock] at e;subst e
   rw [hg] at hq;simp at hq;exact h2 hq.2.symm
 ·rcases h.dn with ⟨e',_⟩ | ⟨b,D,e',_,⟨es,clock,hm,_⟩,_⟩
  ·rw [e'] at e;cases e
  ·rw [e'] at e;cases e
   rw [hm] at hq;simp at hq
theorem Qm.of_net{w:World}{L:Lo}{g:Nat}{wv:Value}{mr:Option Nat}{s:NetS}(h:NetP E w L g wv mr s){G:Nat->Prop}(hG:∀ k,k<w.heap.size->G k->zDi g wv mr k):Qm w L G:=fun k hk hg=>(h.lt (hG k hk hg)).2.2
theorem NetP.loses{w:World}{L:Lo}{g:Nat}{wv:Value}{mr:Option Nat}{s:NetS}(h:NetP E w L g wv mr s)(n:Int)(hn:0<=n/\n<=4611686018427387904) :
  NetP E (w.setCell ⟨g,3,none⟩ (.int .i64 n)) L g wv mr ⟨s.way,n,s.down⟩/\Mod (zDi g wv mr) w (w.setCell ⟨g,3,none⟩ (.int .i64 n)):=by
 obtain ⟨a1,a2,_⟩:=h.apart
 have hm:Mod (zAd g) w (w.setCell ⟨g,3,none⟩ (.int .i64 n)):=Mod.setBlk g 3 _
 have hq:Qm w L (zAd g):=Qm.of_net h (fun k _ e=>.inl e)
 refine ⟨⟨h.blk.set 3 _,h.low,h.row.mod hm hq (fun k hk e=>a1 (by rw [hk];rw [e])),h.dn.mod hm (fun k hk e=>a2 (by rw [hk];rw [e])),h.few,hn,fun k hk=>Nat.lt_of_lt_of_le (h.xb k hk) hm.size⟩,hm.mono (fun i _ e=>.inl e)⟩
theorem NetP.sent{w w6:World}{L:Lo}{g:Nat}{wv v6 u:Value}{mr:Option Nat}{s:NetS}{m:MsgD}{us:List Value}{o:Obj}{g6 n6 cap6:Nat}(h:NetP E w L g wv mr s)(hus:us.length=s.way.length)
  (hps:∀ (i:Nat) m u,s.way[i]?=some m->us[i]?=some u->zAy w L u m.cmd.writes) (hgd:∀ m∈s.way,zJg m) (hu:zAy w L u m.cmd.writes) (hgm:zJg m) (hfew:s.way.length<200)
  (hgrow:(w.alloc o).grownBy w6 wv.ownBlock) (hv6:v6=.slice (some ⟨g6,0,none⟩) n6 cap6) (hown6:w6.ownsRow L 110 9 v6 (s.way.length+1) (zAj s.way us++zAt m u)) (hat:wv.ownBlock=some g6\/g6=w.heap.size+1) :
  NetP E (w6.setCell ⟨g,2,none⟩ v6) L g v6 mr ⟨s.way++[m],s.lost,s.down⟩/\zCf w wv v6/\Mod (zDi g wv mr) w (w6.setCell ⟨g,2,none⟩ v6):=by
 obtain ⟨a1,a2,a3⟩:=h.apart
 have hm6:Mod (fun k=>wv.ownBlock=some k) w w6:=((Mod.refl _ w).alloc o).grown hgrow (fun x hx _=>hx)
 have hq6:Qm w L (fun k=>wv.ownBlock=some k):=Qm.of_net h (fun k _ e=>.inr (.inl e))
 have hb6:Blk w6 g [E.a0,E.a1,wv,.int .i64 s.lost,.map mr,E.a5,E.a6] 90:=h.blk.mod hm6 a1
 have hb6':=hb6
 simp only [Blk] at hb6'
 have hms:Mod (zAd g) w6 (w6.setCell ⟨g,2,none⟩ v6):=Mod.setBlk g 2 _
 have hqs:Qm w6 L (zAd g):=fun k _ e=>by
  simp only [zAd] at e;subst e
  rintro (e | ⟨⟨cur,fr,e⟩,_⟩)
  ·have:=h.low;omega
  ·rw [hb6'] at e;simp at e
 have hne:v6.ownBlock≠some g:=by
  rw [hv6];simp only [Value.ownBlock,ne_eq,Option.some.injEq]
  rintro rfl
  rcases hat with e | e
  ·exact a1 e
  ·have:=h.blk.lt;omega
 refine ⟨⟨hb6.set 2 _,h.low,⟨us++[u],by simp [hus],?_,?_,?_⟩,?_,by simp;omega,h.lo,fun k hk=>Nat.lt_of_lt_of_le (h.xb k hk) (Nat.le_trans hm6.size hms.size)⟩,?_,?_⟩
 ·have:=zAn (G:=zAd g) hown6 hms (fun k _ _ e e'=>hne (by rw [e];rw [e']))
  rw [zHj _ _ _ _ hus];simpa using this
 ·intro i m' u' hi hu'
  have key:∀ {x:Value} {ps:List zAz},zAy w L x ps->zAy (w6.setCell ⟨g,2,none⟩ v6) L x ps:=fun hx=>(hx.mod hm6 hq6).mod hms hqs
  by_cases hlt:i<s.way.length
  ·simp only at hi
   rw [List.getElem?_append_left hlt] at hi
   rw [List.getElem?_append_left (by omega)] at hu'
   exact key (hps i m' u' hi hu')
  ·have hi':i=s.way.length:=by
    rcases Nat.lt_or_ge i (s.way.length+1) with h' | h'
    ·omega
    ·simp only at hi;rw [List.getElem?_eq_none (by simpa using h')] at hi;cases hi
   subst hi'
   simp only at hi
   rw [List.getElem?_append_right (Nat.le_refl _)] at hi
   rw [List.getElem?_append_right (by omega)] at hu'
   simp [hus] at hi hu'
   subst hi hu'
   exact key hu
 ·intro m' hm'
  rcases List.mem_append.1 hm' with e | e
  ·exact hgd m' e
  ·simp at e;subst e;exact hgm
 ·exact (h.dn.mod hm6 (fun k hk e=>a3 k e hk)).mod hms (fun k hk e=>a2 (by rw [hk,e]))
 ·rcases hat with e | e
  ·exact .inl (by rw [hv6,e];rfl)
  ·exact .inr (fun k hk=>by rw [hv6] at hk;simp [Value.ownBlock] at hk;omega)
 ·exact (hm6.mono (fun i _ e=>.inr (.inl e))).setCell (p:=⟨g,2,none⟩) (fun _=>.inl rfl) _
theorem yFg(L:Lo)(g:Nat)(wv:Value)(mr:Option Nat)(s:NetS)(S:Nat->Prop)(v:Value)(ms:List MsgD)(w:World)(h:NetP E w L g wv mr s)(hv:yEu w L S v ms)(hS:∀ k,S k->k<w.heap.size/\¬ zDi g wv mr k)(hlo:s.lost+ms.length<=4611686018427387904) :
  Calls Tryz.prog 80 #[.pointer (some ⟨g,2,none⟩),v] w fun e w'=>∃ wv',e=.returned (.int .i64 ((zFd s ms).lost - s.lost))/\NetP E w' L g wv' mr (zFd s ms)/\zCf w wv wv'/\Mod (zDi g wv mr) w w':=by
 obtain ⟨i0,hi,hz0,hz1,hz2⟩:=info_parts Tryz.info110
 have hv0:=hv
 obtain ⟨va,vcap,rfl,hvc,hvm,_⟩:=hv0
 unfold maxLen at hvm
 have c1:=h.blk.cell 3 rfl
 have HS:=Hmr hS
 have hgl:=h.blk.lt
 have HX:=Hmr (zUw g w)
 go_enter Tryz.func80,Tryz.ntmps80
 go_wp2_with fail
 refine HX.out.mono ?_
 rintro e w0 ⟨hw0,rfl⟩
 have hm0:Mod zAb w w0:=by rw [hw0];exact (Mod.refl _ w).alloc _
 have hq0:Blk w0 w.heap.size [.pointer (some ⟨g,2,none⟩)] 153:=by rw [hw0];exact Blk.new w _ _
 have h0:NetP E w0 L g wv mr s:=h.mod hm0 (Qm.none _ _) (fun _ _=>id)
 have hv1:=hv.mod hm0 (Qm.none _ _) (fun _ _=>id)
 have hM0:Mod (zDi g wv mr) w w0:=hm0.mono (fun _ _ e=>e.elim)
 clear hw0 hm0 h hv HX c1
 go_wp2_with fail
 go_loopw [17] (fun i wr=>∃ (k:Nat) (wv':Value),k<=ms.length/\i=.int .i64 k/\NetP E wr L g wv' mr (zFd s (ms.take k))/\yEu wr L S (.slice va ms.length vcap) ms/\zCf w wv wv'/\Mod (zDi g wv mr) w wr/\Blk wr w.heap.size [.pointer (some ⟨g,2,none⟩)] 153) (fun i _=>ms.length - (intOf i).toNat)
 case atStart=>exact ⟨0,wv,Nat.zero_le _,rfl,by simpa [zFd] using h0,hv1,zCf.refl _ _,hM0,hq0⟩
 case round=>
  obtain ⟨k,wv',hk,rfl,hN,hV,hMv,hM,hQ⟩:=hrel
  clear h0 hv1 hM0 hq0
  have hlk:=zFc (ms.take k) s
  have hlk2:((ms.take k).length:Int)<=k:=by rw [List.length_take];omega
  by_cases hlt:k<ms.length
  ·obtain ⟨m,hm⟩:∃ m,ms[k]?=some m:=⟨_,List.getElem?_eq_getElem hlt⟩
   have hV0:=hV
   obtain ⟨a',cap',ha',_,_,hcl⟩:=hV0
   simp only [Value.slice.injEq] at ha'
   obtain ⟨rfl,_,rfl⟩:=ha'
   rcases hcl with rfl | ⟨b,off,rfl,hSb,hcl⟩
   ·simp at hlt
   obtain ⟨u,hu,hgm,hcm⟩:=hcl k m hm
   have q0:=hcm 0 _ rfl
   have q1:=hcm 1 _ rfl
   have q2:=hcm 2 _ rfl
   have q3:=hcm 3 _ rfl
   have q4:=hcm 4 _ rfl
   have q5:=hcm 5 _ rfl
   have q6:=hcm 6 _ rfl
   have q7:=hcm 7 _ rfl
   have q8:=hcm 8 _ rfl
   simp only [Nat.add_zero] at q0
   obtain ⟨ua,ucap,rfl⟩:∃ ua ucap,u=.slice ua m.cmd.writes.length ucap:=by obtain ⟨ua,ucap,h,_⟩:=hu;exact ⟨ua,ucap,h⟩
   have HT:Hid (zFd s (ms.take (k+1))=zFe (zFd s (ms.take k)) m):=by
    have e:ms.take (k+1)=ms.take k++[m]:=by
     rw [List.take_succ_eq_append_getElem hlt]
     rw [List.getElem?_eq_getElem hlt] at hm
     simp at hm;rw [hm]
    rw [Hid,e,zUx]
   obtain ⟨s1,hs1⟩:∃ q,q=zFd s (ms.take k):=⟨_,rfl⟩
   rw [<-hs1] at hN hlk HT
   clear hcl hcm hm hs1
   obtain ⟨w1,hw1⟩:∃ q,q=wr.alloc (.cells #[.int .i64 m.kind,.int .i64 m.frm,.int .i64 m.to,.int .i64 m.epoch,.int .i64 m.n,.int .i64 m.cmd.kind,.int .i64 m.cmd.tx,.int .i64 m.cmd.time,.slice ua m.cmd.writes.length ucap] 110):=⟨_,rfl⟩
   have hm1:Mod zAb wr w1:=by rw [hw1];exact (Mod.refl _ wr).alloc _
   have hB1:Blk w1 wr.heap.size (zAt m (.slice ua m.cmd.writes.length ucap)) 110:=by rw [hw1];exact Blk.new wr _ _
   have hN1:=hN.mod hm1 (Qm.none _ _) (fun _ _=>id)
   have hV1:=hV.mod hm1 (Qm.none _ _) (fun _ _=>id)
   have hQ1:=hQ.mod hm1 id
   have hu1:=hu.mod hm1 (Qm.none _ _)
   have hM1:=hM.trans (hm1.mono (fun _ _ e=>e.elim))
   have HSI:=Hmr (zRw g w.heap.size L m (.slice ua m.cmd.writes.length ucap) mr s1.down w1 (hQ1.cell 0 rfl) (hN1.blk.cell 4 rfl) hN1.dn hgm.1)
   clear hN hV hQ hu hM hm1
   go_wp2_with fail
   rw [<-hw1]
   refine HSI.out.mono ?_
   rintro e w2 ⟨rfl,hm2⟩
   have hN2:=hN1.mod hm2 (Qm.none _ _) (fun _ _=>id)
   have hV2:=hV1.mod hm2 (Qm.none _ _) (fun _ _=>id)
   have hQ2:=hQ1.mod hm2 id
   have hB2:=hB1.mod hm2 id
   have hu2:=hu1.mod hm2 (Qm.none _ _)
   have hM2:=hM1.trans (hm2.mono (fun _ _ e=>e.elim))
   clear hN1 hV1 hQ1 hu1 hM1 hm2 hB1 hw1 HSI q0 q1 q2 q3 q4 q5 q6 q7 q8
   by_cases hsi:zDx s1.down m=true
   ·rw [hsi]
    have HF:Hid (zFe s1 m=⟨s1.way,s1.lost+1,s1.down⟩):=by rw [Hid,zFe,hsi];rfl
    have c1:=hN2.blk.cell 3 rfl
    have f1:=hN2.blk.frozen 3
    have hl1:=hN2.lo
    have HLO:=Hmr (hN2.loses (s1.lost+1) (by omega))
    have hVL:=hV2.mod (Mod.setBlk (w:=w2) g 3 (.int .i64 (s1.lost+1))) (Qm.of_net hN2 (fun k _ e=>.inl e)) (fun k hk e=>(HS.out k hk).2 (.inl e))
    have hQL:=hQ2.mod (Mod.setBlk (w:=w2) g 3 (.int .i64 (s1.lost+1))) (fun e=>by simp only [zAd] at e;omega)
    have hML:=hM2.net hMv HLO.out.2
    clear hN2 hV2 hQ2 hM2 hu2 hB2
    go_wp2_with fail
    go_roundw
    case rel=>exact ⟨k+1,wv',by omega,by go_num,by rw [HT.out,HF.out];exact HLO.out.1,hVL,hMv,hML,hQL⟩
    case measure=>simp [intOf];omega
   ·have hsf:zDx s1.down m=false:=by simpa using hsi
    rw [hsf]
    have HRO:=Hmr (zXm L g wv' mr s1 w2 hN2)
    go_wp2_with fail
    refine HRO.out.mono ?_
    rintro e w3 ⟨rfl,hw3⟩
    subst hw3
    by_cases hro:s1.way.length<200
    ·have hd:decide (s1.way.length<200)=true:=by simpa using hro
     rw [hd]
     have HF:Hid (zFe s1 m=⟨s1.way++[m],s1.lost,s1.down⟩):=by rw [Hid,zFe,hsf,Bool.false_or,if_neg (by simp;omega)]
     obtain ⟨wa,wcap,hwv⟩:=hN2.row.slice
     subst hwv
     have c0:=hN2.blk.cell 2 rfl
     have f0:=hN2.blk.frozen 2
     obtain ⟨⟨p0,p1,p2,p3,p4,p5,p6,p7,p8⟩,_⟩:=blk9 hB2
     have HU:Hid (zAy w3.drew L (.slice ua m.cmd.writes.length ucap) m.cmd.writes):=hu2.mod ((Mod.refl zAb w3).drew) (Qm.none _ _)
     have HN3:=Hmr hN2
     have HAP:=Hmr hN2.apart
     have HV3:=Hmr hV2
     have hz3:=hM2.size
     have hgz:=hN2.blk.lt
     have hbz:=hB2.lt
     have hml:m.cmd.writes.length<=1000000:=by have:=hgm.2;omega
     have hk63:s1.way.length+1<=maxLen:=by unfold maxLen;omega
     have hk47:(s1.way.length+1)*88<=140737488355328:=by omega
     obtain ⟨us,hus,hrow,hps,hgd⟩:=hN2.row
     have HROW:=Hmr hrow
     have HPS:=Hmr hps
     have HGD:=Hmr hgd
     have hlow:=hN2.low
     clear hN2 hV2 hu2 hrow hps hgd HRO
     go_upto_region 8 with fail
     go_region_law
       ((first
        | (go_simp;go_at_call 131;(refine (yPo L m _ _ HU.out hml).mono ?_;rintro e w5 ⟨u5,rfl,hown5,hm5⟩;obtain ⟨ua5,uc5,rfl⟩:=zAg hown5;have hm35:Mod zAb w3 w5:=(((Mod.refl zAb w3).drew).trans hm5);have c5:=hm35.cell c0 id;have f5:=(hm35.frozen (p:=⟨g,2,none⟩) hgz id).trans f0;have z5:=hm35.size;have gz5:g<w5.heap.size:=Nat.lt_of_lt_of_le hgz z5;have HR5:=Hmr (zAn HROW.out hm35 (fun _ _ _ _=>id));dsimp only [msgV]))
        | (refine step_append_lies _ (by rfl) _ _ _ (by rfl) L 110 i0 _ 9 88 Tryz.underlying82 hi hz0 hz1 hz2 rfl (by omega) _ _ _ (by rfl) (HR5.out.alloc _) ⟨w5.heap.size,0,none⟩ 1 1 (zAt m (.slice ua5 m.cmd.writes.length uc5)) (by rfl) (by rfl) (World.news_of_block (heap_alloc_new w5 _)) (yDn _ _ _ _) (by omega) hk63 hk47 (by simp;omega) _ rfl ?_;intro g6 cap6 w6 hown6 hgrow hat hlt6;have hm56:Mod (fun k=>(Value.slice wa s1.way.length wcap).ownBlock=some k) w5 w6:=((Mod.refl _ w5).alloc _).grown hgrow (fun x hx _=>hx);have c6:=hm56.cell c5 HAP.out.1;have f6:=(hm56.frozen (p:=⟨g,2,none⟩) (Nat.lt_of_lt_of_le hgz z5) HAP.out.1).trans f5)
        | fail))
     all_goals
      have hN5:=HN3.out.mod hm35 (Qm.none _ _) (fun _ _=>id)
      have R:=hN5.sent hus (fun i m u h1 h2=>(HPS.out i m u h1 h2).mod hm35 (Qm.none _ _)) HGD.out (zAy.of_own hown5 (fun k hk=>HN3.out.xb k hk)) hgm hro hgrow rfl hown6 (by simpa using hat)
      have hM5:=hM2.trans (hm35.mono (fun _ _ e=>e.elim))
      have HR:=Hmr R.1
      have hMv6:=hMv.trans R.2.1 (Nat.le_trans hz3 z5)
      have hM6:=hM5.net hMv R.2.2
      have hV5:=HV3.out.mod hm35 (Qm.none _ _) (fun _ _=>id)
      have hV6:=hV5.mod R.2.2 hN5.qm (fun k hk e=>by
       obtain ⟨h1,h2⟩:=HS.out k hk
       rcases e with e | e | e
       ·exact h2 (.inl e)
       ·rcases hMv with h3 | h3
        ·exact h2 (.inr (.inl (by rw [<-h3];exact e)))
        ·have:=h3 k e;omega
       ·exact h2 (.inr (.inr e)))
      have hQ6:=(hQ2.mod hm35 id).mod R.2.2 (hN5.not_blk (hQ2.mod hm35 id) (by decide) (by decide))
      go_wp2_with fail
      go_roundw
      case rel=>exact ⟨k+1,_,by omega,by go_num,by rw [HT.out,HF.out];exact HR.out,hV6,hMv6,hM6,hQ6⟩
      case measure=>simp [intOf];omega
    ·have hd:decide (s1.way.length<200)=false:=by simpa using hro
     rw [hd]
     have HF:Hid (zFe s1 m=⟨s1.way,s1.lost+1,s1.down⟩):=by rw [Hid,zFe,hsf,Bool.false_or,if_pos (by simp;omega)]
     have c1:=hN2.blk.cell 3 rfl
     have f1:=hN2.blk.frozen 3
     have hl1:=hN2.lo
     have HLO:=Hmr (hN2.loses (s1.lost+1) (by omega))
     have hVL:=hV2.mod (Mod.setBlk (w:=w3) g 3 (.int .i64 (s1.lost+1))) (Qm.of_net hN2 (fun k _ e=>.inl e)) (fun k hk e=>(HS.out k hk).2 (.inl e))
     have hQL:=hQ2.mod (Mod.setBlk (w:=w3) g 3 (.int .i64 (s1.lost+1))) (fun e=>by simp only [zAd] at e;omega)
     have hML:=hM2.net hMv HLO.out.2
     clear hN2 hV2 hQ2 hM2 hu2 hB2
     go_wp2_with fail
     go_roundw
     case rel=>exact ⟨k+1,wv',by omega,by go_num,by rw [HT.out,HF.out];exact HLO.out.1,hVL,hMv,hML,hQL⟩
     case measure=>simp [intOf];omega
  ·have hkn:k=ms.length:=by omega
   subst hkn
   rw [List.take_length] at hN hlk
   have c1:=hN.blk.cell 3 rfl
   have hlo1:=hN.lo
   have HN:=Hmr hN
   clear hN hV hQ
   go_wp2_with fail
   go_ret
   exact ⟨wv',by go_num,HN.out,hMv,hM⟩
end Go.Proofs.YtogaigioeohjaaaGreatDoor
namespace Go.Proofs.YtogaigioeohjaaaGreatDoor
open Go.RowKit Go.Lib Go.Maps
variable {E:Ext}
theorem Qm.row{w:World}{B:Nat}{L:Lo}{e:TypeId}{size n:Nat}{v:Value}{xs:List Value}(h:w.ownsRow B e size v n xs)(hL:L<=B)(he:e≠65):Qm w L (fun k=>v.ownBlock=some k):=fun k _ hk=>by
 rcases h.2 with ⟨e',_⟩ | ⟨g',cap,cur,e',h1,hg,_⟩
 ·rw [e'] at hk;simp [Value.ownBlock] at hk
 ·rw [e'] at hk;simp [Value.ownBlock] at hk;subst hk
  rintro (e1 | ⟨⟨cur',fr,e1⟩,_⟩)
  ·omega
  ·rw [hg] at e1;simp at e1;exact he e1.2.1
end Go.Proofs.YtogaigioeohjaaaGreatDoor
namespace Go.Proofs.YtogaigioeohjaaaGreatDoor
open Go.RowKit Go.Lib Go.Maps
def zGt(x:Int):List Int->Option Nat
 | []=>none
 | y :: ys=>if x=y then some 0 else (zGt x ys).map (·+1)
theorem zTb(x:Int):∀ (l:List Int) (k:Nat),(∀ i y,i<k->l[i]?=some y->x≠y)->l[k]?=some x->zGt x l=some k
 | [],_,_,h=>by simp at h
 | y :: ys,0,_,h=>by simp at h;subst h;simp [zGt]
 | y :: ys,k+1,hf,h=>by
  have h0:=hf 0 y (by omega) rfl
  have:=zTb x ys k (fun i z hi hz=>hf (i+1) z (by omega) (by simpa using hz)) (by simpa using h)
  simp [zGt,h0,this]
theorem zTa(x:Int):∀ (l:List Int),(∀ (i:Nat) y,l[i]?=some y->x≠y)->zGt x l=none
 | [],_=>rfl
 | y :: ys,h=>by
  have h0:=h 0 y rfl
  simp [zGt,h0,zTa x ys (fun i z hz=>h (i+1) z (by simpa using hz))]
theorem zSz(x:Int):∀ (l:List Int) (k:Nat),zGt x l=some k->l[k]?=some x
 | [],_,h=>by simp [zGt] at h
 | y :: ys,k,h=>by
  unfold zGt at h
  split at h
  ·rename_i e;simp at h;subst h;simp [e]
  ·cases hf:zGt x ys with
   | none=>rw [hf] at h;simp at h
   | some j=>
    rw [hf] at h;simp at h;subst h
    simpa using zSz x ys j hf
def plI(o:Option Nat):Int:=match o with | none=>-1 | some k=>k
structure zAl where
 id:Int
 epoch:Int
 nodes:List Int
 log:List CmdD
 stable:Int
def zGz(s:zAl):Int:=plI (zGt s.id s.nodes)
theorem zQg(s:zAl):zGz s = -1\/∃ k:Nat,zGz s=k/\s.nodes[k]?=some s.id/\k<s.nodes.length:=by
 unfold zGz
 cases h:zGt s.id s.nodes with
 | none=>exact .inl rfl
 | some k=>
  have hk:=zSz _ _ _ h
  exact .inr ⟨k,rfl,hk,(List.getElem?_eq_some_iff.1 hk).1⟩
def inN(s:zAl):Bool:=decide (0<=zGz s)
def headN(s:zAl):Bool:=zGz s == 0
def zNp(s:zAl):Bool:=inN s && (zGz s == (s.nodes.length:Int) - 1)
def nbrN(s:zAl)(wh:Int):Option Int:=if inN s && (decide (0<=zGz s+wh) && decide (zGz s+wh<(s.nodes.length:Int))) then s.nodes[(zGz s+wh).toNat]? else none
def zHt(w:World)(v:Value)(ns:List Int):Prop:=
 ∃ a cap,v=.slice a ns.length cap/\ns.length<=cap/\cap<=maxLen/\(ns=[]\/∃ b off,a=some ⟨b,off,none⟩/\∀ (j:Nat) x,ns[j]?=some x->w.cell? ⟨b,off+j,none⟩=some (.int .i64 x))
theorem zHt.drewN{w:World}{v:Value}{ns:List Int}(h:zHt w v ns)(n:Nat):zHt (w.drewN n) v ns:=h
theorem zHt.of_own{w:World}{B:Nat}{v:Value}{ns:List Int}(h:w.ownsRow B 3 1 v ns.length (ns.map (Value.int .i64))):zHt w v ns:=by
 rcases h.2 with ⟨e,h0⟩ | ⟨g,cap,cur,e,_,hg,hc1,hc2,_⟩
 ·have:ns=[]:=List.eq_nil_of_length_eq_zero h0
  subst this
  exact ⟨none,0,e,Nat.le_refl _,Nat.zero_le _,.inl rfl⟩
 ·refine ⟨_,cap,e,hc1,hc2,.inr ⟨g,0,rfl,fun j x hx=>?_⟩⟩
  subst e
  have hc:=h.cells (g:=g) rfl j (.int .i64 x) (by simp [hx])
  rw [Go.WideShapes.add_plain] at hc;exact hc
theorem zVq(v:Value)(ns:List Int)(x:Int)(w:World)(hv:zHt w v ns) :
  Calls Tryz.prog 193 #[v,.int .i64 x] w fun e w'=>e=.returned (.int .i64 (plI (zGt x ns)))/\w'=w:=by
 obtain ⟨a,cap,rfl,hc1,hc2,hcl⟩:=hv
 unfold maxLen at hc2
 have HCL:=Hmr hcl
 clear hcl
 go_enter Tryz.func193,Tryz.ntmps193
 go_wp2_with fail
 go_loopw [8] (fun i wr=>∃ k:Nat,k<=ns.length/\i=.int .i64 k/\(∀ i y,i<k->ns[i]?=some y->x≠y)/\wr=w) (fun i _=>ns.length - (intOf i).toNat)
 case atStart=>exact ⟨0,Nat.zero_le _,rfl,fun i y h=>by omega,rfl⟩
 case round=>
  obtain ⟨k,hk,rfl,hno,rfl⟩:=hrel
  have HNO:=Hmr hno
  clear hno
  by_cases hlt:k<ns.length
  ·obtain ⟨y,hy⟩:∃ y,ns[k]?=some y:=⟨_,List.getElem?_eq_getElem hlt⟩
   rcases HCL.out with e | ⟨b,off,rfl,hcl⟩
   ·rw [e] at hlt;simp at hlt
   have q0:=hcl k y hy
   have HY:=Hmr hy
   have hltI:(k:Int)<(ns.length:Int):=by omega
   have hlt0:(0:Int)<=(k:Int):=by omega
   clear hcl hy
   by_cases hxy:x=y
   ·subst hxy
    have HF:Hid (zGt x ns=some k):=zTb x ns k HNO.out HY.out
    go_wp2_with fail
    go_ret
    exact ⟨by rw [HF.out];rfl,rfl⟩
   ·have hne:(x == y)=false:=by simpa using hxy
    go_wp2_with fail
    go_roundw
    case rel=>
     refine ⟨k+1,by omega,by go_num,fun i z hi hz=>?_,by trivial⟩
     by_cases e:i=k
     ·subst e;have h2:=HY.out;rw [h2] at hz;cases hz;exact hxy
     ·exact HNO.out i z (by omega) hz
    case measure=>simp [intOf];omega
  ·obtain rfl:k=ns.length:=by omega
   have HF:Hid (zGt x ns=none):=zTa x ns (fun i y hi=>HNO.out i y ((List.getElem?_eq_some_iff.1 hi).1) hi)
   go_wp2_with fail
   go_ret
   exact ⟨by rw [HF.out];rfl,rfl⟩
def zYi(c:CmdD):Prop:=intsC c/\c.writes.length<=40
def RowC(w:World)(L:Lo)(v:Value)(cs:List CmdD):Prop:=
 ∃ us:List Value,us.length=cs.length/\w.ownsRow L 108 4 v cs.length (zGr cs us)/\(∀ (i:Nat) c u,cs[i]?=some c->us[i]?=some u->zAy w L u c.writes)/\∀ c∈cs,zYi c
theorem RowC.nil(w:World)(L:Lo):RowC w L (.slice none 0 0) []:=⟨[],rfl,World.ownsRow_nil _ _ _ _,fun i m u h=>by simp at h,by simp⟩
theorem RowC.mod{G:Nat->Prop}{w w':World}{L:Lo}{v:Value}{cs:List CmdD}(h:RowC w L v cs)(hm:Mod G w w')(hq:Qm w L G)(hG:∀ k,v.ownBlock=some k->¬ G k):RowC w' L v cs:=by
 obtain ⟨us,h1,h2,h3,h4⟩:=h
 exact ⟨us,h1,zAn h2 hm (fun k _ _ e=>hG k e),fun i m u hi hu=>(h3 i m u hi hu).mod hm hq,h4⟩
theorem RowC.slice{w:World}{L:Lo}{v:Value}{cs:List CmdD}(h:RowC w L v cs):∃ a cap,v=.slice a cs.length cap:=by
 obtain ⟨us,_,h2,_⟩:=h;exact zAg h2
theorem zIe:∀ (cs:List CmdD) (us:List Value) (i:Nat) (c:CmdD) (u:Value),us.length=cs.length->cs[i]?=some c->us[i]?=some u->∀ j x,(zEm c u)[j]?=some x->(zGr cs us)[i*4+j]?=some x
 | [],_,_,_,_,_,h,_,_,_,_=>by simp at h
 | _ :: _,[],_,_,_,h,_,_,_,_,_=>by simp at h
 | c' :: cs,u' :: us,0,c,u,_,h,h',j,x,hx=>by
  simp at h h';subst h h'
  have hj:j<(zEm c' u').length:=(List.getElem?_eq_some_iff.1 hx).1
  rw [Nat.zero_mul,Nat.zero_add,zGr,List.getElem?_append_left hj];exact hx
 | c' :: cs,u' :: us,i+1,c,u,hl,h,h',j,x,hx=>by
  have:=zIe cs us i c u (by simpa using hl) (by simpa using h) (by simpa using h') j x hx
  have e:(i+1)*4+j=(zEm c' u').length+(i*4+j):=by simp [zEm];omega
  rw [e,zGr,List.getElem?_append_right (by omega),Nat.add_sub_cancel_left];exact this
theorem RowC.at{w:World}{L:Lo}{v:Value}{cs:List CmdD}(h:RowC w L v cs){i:Nat}{c:CmdD}(hi:cs[i]?=some c) :
  ∃ g cap u,v=.slice (some ⟨g,0,none⟩) cs.length cap/\cs.length<=cap/\cap<=maxLen/\zAy w L u c.writes/\zYi c /\
   w.cell? ⟨g,i*4,none⟩=some (.int .i64 c.kind)/\w.cell? ⟨g,i*4+1,none⟩=some (.int .i64 c.tx)/\w.cell? ⟨g,i*4+2,none⟩=some (.int .i64 c.time)/\w.cell? ⟨g,i*4+3,none⟩=some u:=by
 obtain ⟨us,h1,h2,h3,h4⟩:=h
 have hlt:i<cs.length:=(List.getElem?_eq_some_iff.1 hi).1
 obtain ⟨u,hu⟩:∃ u,us[i]?=some u:=⟨_,List.getElem?_eq_getElem (by omega)⟩
 rcases h2.2 with ⟨_,h0⟩ | ⟨g,cap,cur,rfl,_,hg,hc1,hc2,_,_⟩
 ·omega
 ·have hc:=h2.cells (g:=g) rfl
  have add0:∀ j,(⟨g,0,none⟩:Addr).add j=⟨g,j,none⟩:=fun j=>by rw [Go.WideShapes.add_plain,Nat.zero_add]
  have key:∀ j x,(zEm c u)[j]?=some x->w.cell? ⟨g,i*4+j,none⟩=some x:=fun j x hx=>by
   have:=hc _ _ (zIe cs us i c u h1 hi hu j x hx)
   rw [add0] at this;exact this
  exact ⟨g,cap,u,rfl,hc1,hc2,h3 i c u hi hu,h4 c (List.mem_of_getElem? hi),key 0 _ rfl,key 1 _ rfl,key 2 _ rfl,key 3 _ rfl⟩
theorem zAi{w:World}{B:Nat}{v:Value}{e:TypeId}{sz n:Nat}{xs:List Value}(ho:w.ownsRow B e sz v n xs){k:Nat}(hk:v.ownBlock=some k):B<=k/\k<w.heap.size/\∃ cur,w.heap[k]?=some (.cells cur e (0,0)):=by
 rcases ho.2 with ⟨e',_⟩ | ⟨g',cap,cur,e',hb,hg,_⟩
 ·rw [e'] at hk;simp [Value.ownBlock] at hk
 ·rw [e'] at hk;simp [Value.ownBlock] at hk;subst hk;exact ⟨hb,(Array.getElem?_eq_some_iff.1 hg).1,cur,hg⟩
structure zAx(w:World)(L:Lo)(g:Nat)(nv lv:Value)(s:zAl):Prop where
 blk:Blk w g [.int .i64 s.id,.int .i64 s.epoch,nv,lv,.int .i64 s.stable] 160
 low:L<=g
 ns:w.ownsRow L 3 1 nv s.nodes.length (s.nodes.map (Value.int .i64))
 lg:RowC w L lv s.log
 ints:zBc s.id/\zBc s.epoch/\∀ x∈s.nodes,zBc x
 few:s.nodes.length<=1000000/\s.log.length<=500
 st:0<=s.stable/\s.stable<=s.log.length
 xb:∀ k,L.x k->k<w.heap.size
def zAs(g:Nat)(nv lv:Value)(k:Nat):Prop:=k=g\/nv.ownBlock=some k\/lv.ownBlock=some k
theorem zAx.lt{w:World}{L:Lo}{g:Nat}{nv lv:Value}{s:zAl}(h:zAx w L g nv lv s){k:Nat}(hk:zAs g nv lv k):L<=k/\k<w.heap.size/\¬ St w L k:=by
 rcases hk with rfl | hk | hk
 ·refine ⟨h.low,h.blk.lt,?_⟩
  rintro (e | ⟨⟨cur,fr,e⟩,_⟩)
  ·have:=h.low;omega
  ·have:=h.blk;simp only [Blk] at this;rw [this] at e;simp at e
 ·obtain ⟨h1,h2,_⟩:=zAi h.ns hk
  exact ⟨h1,h2,Qm.row h.ns (Nat.le_refl _) (by decide) k h2 hk⟩
 ·obtain ⟨us,_,h2,_⟩:=h.lg
  obtain ⟨h3,h4,_⟩:=zAi h2 hk
  exact ⟨h3,h4,Qm.row h2 (Nat.le_refl _) (by decide) k h4 hk⟩
theorem zAx.qm{w:World}{L:Lo}{g:Nat}{nv lv:Value}{s:zAl}(h:zAx w L g nv lv s):Qm w L (zAs g nv lv):=fun _ _ hk=>(h.lt hk).2.2
theorem Qm.of_node{w:World}{L:Lo}{g:Nat}{nv lv:Value}{s:zAl}(h:zAx w L g nv lv s){G:Nat->Prop}(hG:∀ k,k<w.heap.size->G k->zAs g nv lv k):Qm w L G:=fun k hk hg=>(h.lt (hG k hk hg)).2.2
theorem zAx.mod{G:Nat->Prop}{w w':World}{L:Lo}{g:Nat}{nv lv:Value}{s:zAl}(h:zAx w L g nv lv s)(hm:Mod G w w')(hq:Qm w L G)(hG:∀ k,zAs g nv lv k->¬ G k):zAx w' L g nv lv s:=
 ⟨h.blk.mod hm (hG g (.inl rfl)),h.low,zAn h.ns hm (fun k _ _ e=>hG k (.inr (.inl e))),h.lg.mod hm hq (fun k hk=>hG k (.inr (.inr hk))),h.ints,h.few,h.st,fun k hk=>Nat.lt_of_lt_of_le (h.xb k hk) hm.size⟩
theorem zAx.quiet{w w':World}{L:Lo}{g:Nat}{nv lv:Value}{s:zAl}(h:zAx w L g nv lv s)(hm:Mod zAb w w'):zAx w' L g nv lv s:=h.mod hm (Qm.none _ _) (fun _ _=>id)
theorem zAx.drewN{w:World}{L:Lo}{g:Nat}{nv lv:Value}{s:zAl}(h:zAx w L g nv lv s)(n:Nat):zAx (w.drewN n) L g nv lv s:=h.quiet ((Mod.refl _ w).drewN n)
theorem zAx.apart{w:World}{L:Lo}{g:Nat}{nv lv:Value}{s:zAl}(h:zAx w L g nv lv s):nv.ownBlock≠some g/\lv.ownBlock≠some g/\∀ k,nv.ownBlock=some k->lv.ownBlock≠some k:=by
 have hb:=h.blk
 simp only [Blk] at hb
 obtain ⟨us,_,h2,_⟩:=h.lg
 refine ⟨fun e=>?_,fun e=>?_,fun k e e'=>?_⟩
 ·obtain ⟨_,_,cur,hc⟩:=zAi h.ns e
  rw [hb] at hc;simp at hc
 ·obtain ⟨_,_,cur,hc⟩:=zAi h2 e
  rw [hb] at hc;simp at hc
 ·obtain ⟨_,_,cur,hc⟩:=zAi h.ns e
  obtain ⟨_,_,cur',hc'⟩:=zAi h2 e'
  rw [hc] at hc';simp at hc'
theorem zFt{w:World}{g:Nat}{a0 a1 a2 a3 a4:Value}{t:TypeId}(h:Blk w g [a0,a1,a2,a3,a4] t) :
  w.cell? ⟨g,0,none⟩=some a0/\w.cell? ⟨g,1,none⟩=some a1/\w.cell? ⟨g,2,none⟩=some a2/\w.cell? ⟨g,3,none⟩=some a3/\w.cell? ⟨g,4,none⟩=some a4:=
 ⟨h.cell 0 rfl,h.cell 1 rfl,h.cell 2 rfl,h.cell 3 rfl,h.cell 4 rfl⟩
theorem zKa(L:Lo)(g:Nat)(nv lv:Value)(s:zAl)(w:World)(h:zAx w L g nv lv s) :
  Calls Tryz.prog 218 #[.pointer (some ⟨g,0,none⟩)] w fun e w'=>e=.returned (.int .i64 (zGz s))/\∃ m,w'=w.drewN m:=by
 obtain ⟨c0,c1,c2,c3,c4⟩:=zFt h.blk
 have HI:=Hmr (zHt.of_own h.ns)
 clear h
 go_enter Tryz.func218,Tryz.ntmps218
 go_wp2_with fail
 go_quiet (first
  | (go_at_call 193;refine Calls.quiet_of_same (zVq _ _ _ _ (HI.out.drewN _)))
  | fail)
 go_wp2_with fail
 go_ret
 exact ⟨rfl,_,rfl⟩
theorem yAx(L:Lo)(g:Nat)(nv lv:Value)(s:zAl)(w:World)(h:zAx w L g nv lv s) :
  Calls Tryz.prog 202 #[.pointer (some ⟨g,0,none⟩)] w fun e w'=>e=.returned (.bool (inN s))/\∃ m,w'=w.drewN m:=by
 have HP:=Hmr (zKa L g nv lv s w h)
 clear h
 go_enter Tryz.func202,Tryz.ntmps202
 go_wp2_with fail
 refine HP.out.mono ?_
 rintro e w1 ⟨rfl,m,rfl⟩
 go_wp2_with fail
 go_ret
 exact ⟨rfl,m,rfl⟩
theorem yQt(L:Lo)(g:Nat)(nv lv:Value)(s:zAl)(w:World)(h:zAx w L g nv lv s) :
  Calls Tryz.prog 199 #[.pointer (some ⟨g,0,none⟩)] w fun e w'=>e=.returned (.bool (headN s))/\∃ m,w'=w.drewN m:=by
 have HP:=Hmr (zKa L g nv lv s w h)
 clear h
 go_enter Tryz.func199,Tryz.ntmps199
 go_wp2_with fail
 refine HP.out.mono ?_
 rintro e w1 ⟨rfl,m,rfl⟩
 go_wp2_with fail
 go_ret
 exact ⟨rfl,m,rfl⟩
theorem yFe(L:Lo)(g:Nat)(nv lv:Value)(s:zAl)(w:World)(h:zAx w L g nv lv s) :
  Calls Tryz.prog 157 #[.pointer (some ⟨g,0,none⟩)] w fun e w'=>e=.returned (.bool (zNp s))/\∃ m,w'=w.drewN m:=by
 obtain ⟨na,ncap,hnv⟩:=zAg h.ns
 subst hnv
 obtain ⟨c0,c1,c2,c3,c4⟩:=zFt h.blk
 have hf:=h.few.1
 have HN:=Hmr h
 clear h
 go_enter Tryz.func157,Tryz.ntmps157
 go_wp2_with fail
 cases hin:inN s with
 | true=>
  have HIN:Hid (∀ n,Calls Tryz.prog 202 #[.pointer (some ⟨g,0,none⟩)] (w.drewN n) fun e w'=>e=.returned (.bool true)/\∃ m,w'=(w.drewN n).drewN m):=fun n=>by have:=yAx _ _ _ _ _ _ (HN.out.drewN n);rw [hin] at this;exact this
  have HT:Hid (zNp s=(zGz s == (s.nodes.length:Int) - 1)):=by rw [Hid,zNp,hin];rfl
  go_quiet (first
   | (go_at_call 202;refine Calls.quiet_of (HIN.out _))
   | (go_at_call 218;refine Calls.quiet_of (zKa _ _ _ _ _ _ (HN.out.drewN _)))
   | fail)
  go_wp2_with fail
  go_ret
  exact ⟨by rw [HT.out];rfl,_,rfl⟩
 | false=>
  have HIN:Hid (∀ n,Calls Tryz.prog 202 #[.pointer (some ⟨g,0,none⟩)] (w.drewN n) fun e w'=>e=.returned (.bool false)/\∃ m,w'=(w.drewN n).drewN m):=fun n=>by have:=yAx _ _ _ _ _ _ (HN.out.drewN n);rw [hin] at this;exact this
  have HT:Hid (zNp s=false):=by rw [Hid,zNp,hin];rfl
  go_quiet (first
   | (go_at_call 202;refine Calls.quiet_of (HIN.out _))
   | (go_at_call 218;refine Calls.quiet_of (zKa _ _ _ _ _ _ (HN.out.drewN _)))
   | fail)
  go_wp2_with fail
  go_ret
  exact ⟨by rw [HT.out];rfl,_,rfl⟩
end Go.Proofs.YtogaigioeohjaaaGreatDoor
