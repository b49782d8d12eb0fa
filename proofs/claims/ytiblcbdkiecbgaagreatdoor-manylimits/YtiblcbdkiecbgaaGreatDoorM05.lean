import Derived.Test.YtiblcbdkiecbgaaGreatDoorM04
import Derived.Deep.AppendLies
import Derived.Deep.DeepCutAuto
set_option linter.unusedVariables false
set_option maxRecDepth 100000
set_option maxHeartbeats 16000000
namespace Go.Proofs.YtiblcbdkiecbgaaGreatDoor
open Go.RowKit Go.Lib Go.Maps
variable {E:Ext}
theorem Tryz.info178:(Tryz.prog.info? 178).map (fun i=>(i.zero,i.size,i.bytes))=some (some (.agg #[.int .i64 0,.int .i64 0,.int .i64 0,.int .i64 0,.int .i64 0,.int .i64 0,.int .i64 0,.int .i64 0,.slice none 0 0]),9,88):=by kernel_rfl
def MsgsV(w:World)(L:Lo)(S:Nat->Prop)(v:Value)(ms:List MsgD):Prop:=
 ∃ a cap,v=.slice a ms.length cap/\ms.length<=cap/\cap<=maxLen /\
  (ms=[]\/∃ b off,a=some ⟨b,off,none⟩/\S b/\∀ (i:Nat) m,ms[i]?=some m->∃ u,PairsT w L u m.cmd.writes/\goodM m/\∀ j x,(msgCells m u)[j]?=some x->w.cell? ⟨b,off+i*9+j,none⟩=some x)
theorem MsgsV.mod{G S:Nat->Prop}{w w':World}{L:Lo}{v:Value}{ms:List MsgD}(h:MsgsV w L S v ms)(hm:Mod G w w')(hq:Qm w L G)(hG:∀ k,S k->¬ G k):MsgsV w' L S v ms:=by
 obtain ⟨a,cap,h1,h2,h3,h4⟩:=h
 refine ⟨a,cap,h1,h2,h3,?_⟩
 rcases h4 with h4 | ⟨b,off,h5,h6,h7⟩
 ·exact .inl h4
 ·refine .inr ⟨b,off,h5,h6,fun i m hi=>?_⟩
  obtain ⟨u,h8,h9,h10⟩:=h7 i m hi
  exact ⟨u,h8.mod hm hq,h9,fun j x hx=>hm.cell (h10 j x hx) (hG b h6)⟩
def send1(s:NetS)(m:MsgD):NetS:=if silentB s.down m || decide (200<=s.way.length) then ⟨s.way,s.lost+1,s.down⟩ else ⟨s.way++[m],s.lost,s.down⟩
def sends:NetS->List MsgD->NetS
 | s,[]=>s
 | s,m :: ms=>sends (send1 s m) ms
theorem sends_snoc:∀ ms m s,sends s (ms++[m])=send1 (sends s ms) m
 | [],_,_=>rfl
 | _ :: ms,m,s=>by simp [sends,sends_snoc ms m]
theorem send1_lost(s:NetS)(m:MsgD):s.lost<=(send1 s m).lost/\(send1 s m).lost<=s.lost+1:=by unfold send1;split <;> simp only <;> omega
theorem sends_lost:∀ ms s,s.lost<=(sends s ms).lost/\(sends s ms).lost<=s.lost+ms.length
 | [],s=>by simp [sends]
 | m :: ms,s=>by
  have h1:=send1_lost s m
  have h2:=sends_lost ms (send1 s m)
  simp only [sends,List.length_cons];omega
def Moved(w:World)(v v':Value):Prop:=v'.ownBlock=v.ownBlock\/∀ k,v'.ownBlock=some k->w.heap.size<=k
theorem Moved.refl(w:World)(v:Value):Moved w v v:=.inl rfl
theorem Moved.trans{w w1:World}{a b c:Value}(h:Moved w a b)(k:Moved w1 b c)(hz:w.heap.size<=w1.heap.size):Moved w a c:=by
 rcases k with k | k
 ·rcases h with h | h
  ·exact .inl (k.trans h)
  ·exact .inr (fun x hx=>h x (by rw [<-k];exact hx))
 ·exact .inr (fun x hx=>Nat.le_trans hz (k x hx))
theorem Mod.net{w w1 w2:World}{g:Nat}{v v':Value}{mr:Option Nat}(h:Mod (netMay g v mr) w w1)(hm:Moved w v v')(k:Mod (netMay g v' mr) w1 w2):Mod (netMay g v mr) w w2:=
 h.trans' k (fun i hi e=>by
  rcases e with e | e | e
  ·exact .inl e
  ·rcases hm with hm | hm
   ·exact .inr (.inl (by rw [<-hm];exact e))
   ·have:=hm i e;omega
  ·exact .inr (.inr e))
theorem NetP.apart{w:World}{L:Lo}{g:Nat}{wv:Value}{mr:Option Nat}{s:NetS}(h:NetP E w L g wv mr s):wv.ownBlock≠some g/\mr≠some g/\∀ k,wv.ownBlock=some k->mr≠some k:=by
 have hb:=h.blk
 simp only [Blk] at hb
 refine ⟨fun e=>?_,fun e=>?_,fun k e e'=>?_⟩
 ·obtain ⟨us,_,h2,_⟩:=h.row
  rcases h2.2 with ⟨e',_⟩ | ⟨g',cap,cur,e',_,hg,_⟩
  ·rw [e'] at e;simp [Value.ownBlock] at e
  ·rw [e'] at e;simp [Value.ownBlock] at e;subst e
   rw [hb] at hg;simp at hg
 ·rcases h.dn with ⟨e',_⟩ | ⟨b,D,e',_,⟨es,clock,hm,_⟩,_⟩
  ·rw [e'] at e;cases e
  ·rw [e'] at e;cases e
   rw [hb] at hm;simp at hm
 ·obtain ⟨us,_,h2,_⟩:=h.row
  rcases h2.2 with ⟨e1,_⟩ | ⟨g',cap,cur,e1,_,hg,_⟩
  ·rw [e1] at e;simp [Value.ownBlock] at e
  ·rw [e1] at e;simp [Value.ownBlock] at e;subst e
   rcases h.dn with ⟨e2,_⟩ | ⟨b,D,e2,_,⟨es,clock,hm,_⟩,_⟩
   ·rw [e2] at e';cases e'
   ·rw [e2] at e';cases e'
    rw [hg] at hm;simp at hm
theorem NetP.not_blk{w:World}{L:Lo}{g q:Nat}{wv:Value}{mr:Option Nat}{s:NetS}{cs:List Value}{t:TypeId}(h:NetP E w L g wv mr s)(hq:Blk w q cs t)(h1:t≠159)(h2:t≠178):¬ netMay g wv mr q:=by
 simp only [Blk] at hq
 rintro (rfl | e | e)
 ·have hb:=h.blk
  simp only [Blk] at hb
  rw [hb] at hq;simp at hq;exact h1 hq.2.symm
 ·obtain ⟨us,_,h3,_⟩:=h.row
  rcases h3.2 with ⟨e',_⟩ | ⟨g',cap,cur,e',_,hg,_⟩
  ·rw [e'] at e;simp [Value.ownBlock] at e
  ·rw [e'] at e;simp [Value.ownBlock] at e;subst e
   rw [hg] at hq;simp at hq;exact h2 hq.2.symm
 ·rcases h.dn with ⟨e',_⟩ | ⟨b,D,e',_,⟨es,clock,hm,_⟩,_⟩
  ·rw [e'] at e;cases e
  ·rw [e'] at e;cases e
   rw [hm] at hq;simp at hq
theorem Qm.of_net{w:World}{L:Lo}{g:Nat}{wv:Value}{mr:Option Nat}{s:NetS}(h:NetP E w L g wv mr s){G:Nat->Prop}(hG:∀ k,k<w.heap.size->G k->netMay g wv mr k):Qm w L G:=fun k hk hg=>(h.lt (hG k hk hg)).2.2
theorem NetP.loses{w:World}{L:Lo}{g:Nat}{wv:Value}{mr:Option Nat}{s:NetS}(h:NetP E w L g wv mr s)(n:Int)(hn:0<=n/\n<=4611686018427387904) :
  NetP E (w.setCell ⟨g,3,none⟩ (.int .i64 n)) L g wv mr ⟨s.way,n,s.down⟩/\Mod (netMay g wv mr) w (w.setCell ⟨g,3,none⟩ (.int .i64 n)):=by
 obtain ⟨a1,a2,_⟩:=h.apart
 have hm:Mod (oneBlock g) w (w.setCell ⟨g,3,none⟩ (.int .i64 n)):=Mod.setBlk g 3 _
 have hq:Qm w L (oneBlock g):=Qm.of_net h (fun k _ e=>.inl e)
 refine ⟨⟨h.blk.set 3 _,h.low,h.row.mod hm hq (fun k hk e=>a1 (by rw [hk];rw [e])),h.dn.mod hm (fun k hk e=>a2 (by rw [hk];rw [e])),h.few,hn,fun k hk=>Nat.lt_of_lt_of_le (h.xb k hk) hm.size⟩,hm.mono (fun i _ e=>.inl e)⟩
theorem NetP.sent{w w6:World}{L:Lo}{g:Nat}{wv v6 u:Value}{mr:Option Nat}{s:NetS}{m:MsgD}{us:List Value}{o:Obj}{g6 n6 cap6:Nat}(h:NetP E w L g wv mr s)(hus:us.length=s.way.length)
  (hps:∀ (i:Nat) m u,s.way[i]?=some m->us[i]?=some u->PairsT w L u m.cmd.writes) (hgd:∀ m∈s.way,goodM m) (hu:PairsT w L u m.cmd.writes) (hgm:goodM m) (hfew:s.way.length<200)
  (hgrow:(w.alloc o).grownBy w6 wv.ownBlock) (hv6:v6=.slice (some ⟨g6,0,none⟩) n6 cap6) (hown6:w6.ownsRow L 178 9 v6 (s.way.length+1) (msgsCells s.way us++msgCells m u)) (hat:wv.ownBlock=some g6\/g6=w.heap.size+1) :
  NetP E (w6.setCell ⟨g,2,none⟩ v6) L g v6 mr ⟨s.way++[m],s.lost,s.down⟩/\Moved w wv v6/\Mod (netMay g wv mr) w (w6.setCell ⟨g,2,none⟩ v6):=by
 obtain ⟨a1,a2,a3⟩:=h.apart
 have hm6:Mod (fun k=>wv.ownBlock=some k) w w6:=((Mod.refl _ w).alloc o).grown hgrow (fun x hx _=>hx)
 have hq6:Qm w L (fun k=>wv.ownBlock=some k):=Qm.of_net h (fun k _ e=>.inr (.inl e))
 have hb6:Blk w6 g [E.a0,E.a1,wv,.int .i64 s.lost,.map mr,E.a5,E.a6] 159:=h.blk.mod hm6 a1
 have hb6':=hb6
 simp only [Blk] at hb6'
 have hms:Mod (oneBlock g) w6 (w6.setCell ⟨g,2,none⟩ v6):=Mod.setBlk g 2 _
 have hqs:Qm w6 L (oneBlock g):=fun k _ e=>by
  simp only [oneBlock] at e;subst e
  rintro (e | ⟨⟨cur,fr,e⟩,_⟩)
  ·have:=h.low;omega
  ·rw [hb6'] at e;simp at e
 have hne:v6.ownBlock≠some g:=by
  rw [hv6];simp only [Value.ownBlock,ne_eq,Option.some.injEq]
  rintro rfl
  rcases hat with e | e
  ·exact a1 e
  ·have:=h.blk.lt;omega
 refine ⟨⟨hb6.set 2 _,h.low,⟨us++[u],by simp [hus],?_,?_,?_⟩,?_,by simp;omega,h.lo,fun k hk=>Nat.lt_of_lt_of_le (h.xb k hk) (Nat.le_trans hm6.size hms.size)⟩,?_,?_⟩
 ·have:=own_mod (G:=oneBlock g) hown6 hms (fun k _ _ e e'=>hne (by rw [e];rw [e']))
  rw [msgsCells_snoc _ _ _ _ hus];simpa using this
 ·intro i m' u' hi hu'
  have key:∀ {x:Value} {ps:List PairD},PairsT w L x ps->PairsT (w6.setCell ⟨g,2,none⟩ v6) L x ps:=fun hx=>(hx.mod hm6 hq6).mod hms hqs
  by_cases hlt:i<s.way.length
  ·simp only at hi
   rw [List.getElem?_append_left hlt] at hi
   rw [List.getElem?_append_left (by omega)] at hu'
   exact key (hps i m' u' hi hu')
  ·have hi':i=s.way.length:=by
    rcases Nat.lt_or_ge i (s.way.length+1) with h' | h'
    ·omega
    ·simp only at hi;rw [List.getElem?_eq_none (by simpa using h')] at hi;cases hi
   subst hi'
   simp only at hi
   rw [List.getElem?_append_right (Nat.le_refl _)] at hi
   rw [List.getElem?_append_right (by omega)] at hu'
   simp [hus] at hi hu'
   subst hi hu'
   exact key hu
 ·intro m' hm'
  rcases List.mem_append.1 hm' with e | e
  ·exact hgd m' e
  ·simp at e;subst e;exact hgm
 ·exact (h.dn.mod hm6 (fun k hk e=>a3 k e hk)).mod hms (fun k hk e=>a2 (by rw [hk,e]))
 ·rcases hat with e | e
  ·exact .inl (by rw [hv6,e];rfl)
  ·exact .inr (fun k hk=>by rw [hv6] at hk;simp [Value.ownBlock] at hk;omega)
 ·exact (hm6.mono (fun i _ e=>.inr (.inl e))).setCell (p:=⟨g,2,none⟩) (fun _=>.inl rfl) _
theorem send_any(L:Lo)(g:Nat)(wv:Value)(mr:Option Nat)(s:NetS)(S:Nat->Prop)(v:Value)(ms:List MsgD)(w:World)(h:NetP E w L g wv mr s)(hv:MsgsV w L S v ms)(hS:∀ k,S k->k<w.heap.size/\¬ netMay g wv mr k)(hlo:s.lost+ms.length<=4611686018427387904) :
  Calls Tryz.prog 119 #[.pointer (some ⟨g,2,none⟩),v] w fun e w'=>∃ wv',e=.returned (.int .i64 ((sends s ms).lost - s.lost))/\NetP E w' L g wv' mr (sends s ms)/\Moved w wv wv'/\Mod (netMay g wv mr) w w':=by
 obtain ⟨i0,hi,hz0,hz1,hz2⟩:=info_parts Tryz.info178
 have hv0:=hv
 obtain ⟨va,vcap,rfl,hvc,hvm,_⟩:=hv0
 unfold maxLen at hvm
 have c1:=h.blk.cell 3 rfl
 have HS:=Hmr hS
 have hgl:=h.blk.lt
 have HX:=Hmr (silent_any g w)
 go_enter Tryz.func119,Tryz.ntmps119
 go_wp2_with fail
 refine HX.out.mono ?_
 rintro e w0 ⟨hw0,rfl⟩
 have hm0:Mod noBlock w w0:=by rw [hw0];exact (Mod.refl _ w).alloc _
 have hq0:Blk w0 w.heap.size [.pointer (some ⟨g,2,none⟩)] 217:=by rw [hw0];exact Blk.new w _ _
 have h0:NetP E w0 L g wv mr s:=h.mod hm0 (Qm.none _ _) (fun _ _=>id)
 have hv1:=hv.mod hm0 (Qm.none _ _) (fun _ _=>id)
 have hM0:Mod (netMay g wv mr) w w0:=hm0.mono (fun _ _ e=>e.elim)
 clear hw0 hm0 h hv HX c1
 go_wp2_with fail
 go_loopw [17] (fun i wr=>∃ (k:Nat) (wv':Value),k<=ms.length/\i=.int .i64 k/\NetP E wr L g wv' mr (sends s (ms.take k))/\MsgsV wr L S (.slice va ms.length vcap) ms/\Moved w wv wv'/\Mod (netMay g wv mr) w wr/\Blk wr w.heap.size [.pointer (some ⟨g,2,none⟩)] 217) (fun i _=>ms.length - (intOf i).toNat)
 case atStart=>exact ⟨0,wv,Nat.zero_le _,rfl,by simpa [sends] using h0,hv1,Moved.refl _ _,hM0,hq0⟩
 case round=>
  obtain ⟨k,wv',hk,rfl,hN,hV,hMv,hM,hQ⟩:=hrel
  clear h0 hv1 hM0 hq0
  have hlk:=sends_lost (ms.take k) s
  have hlk2:((ms.take k).length:Int)<=k:=by rw [List.length_take];omega
  by_cases hlt:k<ms.length
  ·obtain ⟨m,hm⟩:∃ m,ms[k]?=some m:=⟨_,List.getElem?_eq_getElem hlt⟩
   have hV0:=hV
   obtain ⟨a',cap',ha',_,_,hcl⟩:=hV0
   simp only [Value.slice.injEq] at ha'
   obtain ⟨rfl,_,rfl⟩:=ha'
   rcases hcl with rfl | ⟨b,off,rfl,hSb,hcl⟩
   ·simp at hlt
   obtain ⟨u,hu,hgm,hcm⟩:=hcl k m hm
   have q0:=hcm 0 _ rfl
   have q1:=hcm 1 _ rfl
   have q2:=hcm 2 _ rfl
   have q3:=hcm 3 _ rfl
   have q4:=hcm 4 _ rfl
   have q5:=hcm 5 _ rfl
   have q6:=hcm 6 _ rfl
   have q7:=hcm 7 _ rfl
   have q8:=hcm 8 _ rfl
   simp only [Nat.add_zero] at q0
   obtain ⟨ua,ucap,rfl⟩:∃ ua ucap,u=.slice ua m.cmd.writes.length ucap:=by obtain ⟨ua,ucap,h,_⟩:=hu;exact ⟨ua,ucap,h⟩
   have HT:Hid (sends s (ms.take (k+1))=send1 (sends s (ms.take k)) m):=by
    have e:ms.take (k+1)=ms.take k++[m]:=by
     rw [List.take_succ_eq_append_getElem hlt]
     rw [List.getElem?_eq_getElem hlt] at hm
     simp at hm;rw [hm]
    rw [Hid,e,sends_snoc]
   obtain ⟨s1,hs1⟩:∃ q,q=sends s (ms.take k):=⟨_,rfl⟩
   rw [<-hs1] at hN hlk HT
   clear hcl hcm hm hs1
   obtain ⟨w1,hw1⟩:∃ q,q=wr.alloc (.cells #[.int .i64 m.kind,.int .i64 m.frm,.int .i64 m.to,.int .i64 m.epoch,.int .i64 m.n,.int .i64 m.cmd.kind,.int .i64 m.cmd.tx,.int .i64 m.cmd.time,.slice ua m.cmd.writes.length ucap] 178):=⟨_,rfl⟩
   have hm1:Mod noBlock wr w1:=by rw [hw1];exact (Mod.refl _ wr).alloc _
   have hB1:Blk w1 wr.heap.size (msgCells m (.slice ua m.cmd.writes.length ucap)) 178:=by rw [hw1];exact Blk.new wr _ _
   have hN1:=hN.mod hm1 (Qm.none _ _) (fun _ _=>id)
   have hV1:=hV.mod hm1 (Qm.none _ _) (fun _ _=>id)
   have hQ1:=hQ.mod hm1 id
   have hu1:=hu.mod hm1 (Qm.none _ _)
   have hM1:=hM.trans (hm1.mono (fun _ _ e=>e.elim))
   have HSI:=Hmr (silent1_any g w.heap.size L m (.slice ua m.cmd.writes.length ucap) mr s1.down w1 (hQ1.cell 0 rfl) (hN1.blk.cell 4 rfl) hN1.dn hgm.1)
   clear hN hV hQ hu hM hm1
   go_wp2_with fail
   rw [<-hw1]
   refine HSI.out.mono ?_
   rintro e w2 ⟨rfl,hm2⟩
   have hN2:=hN1.mod hm2 (Qm.none _ _) (fun _ _=>id)
   have hV2:=hV1.mod hm2 (Qm.none _ _) (fun _ _=>id)
   have hQ2:=hQ1.mod hm2 id
   have hB2:=hB1.mod hm2 id
   have hu2:=hu1.mod hm2 (Qm.none _ _)
   have hM2:=hM1.trans (hm2.mono (fun _ _ e=>e.elim))
   clear hN1 hV1 hQ1 hu1 hM1 hm2 hB1 hw1 HSI q0 q1 q2 q3 q4 q5 q6 q7 q8
   by_cases hsi:silentB s1.down m=true
   ·rw [hsi]
    have HF:Hid (send1 s1 m=⟨s1.way,s1.lost+1,s1.down⟩):=by rw [Hid,send1,hsi];rfl
    have c1:=hN2.blk.cell 3 rfl
    have f1:=hN2.blk.frozen 3
    have hl1:=hN2.lo
    have HLO:=Hmr (hN2.loses (s1.lost+1) (by omega))
    have hVL:=hV2.mod (Mod.setBlk (w:=w2) g 3 (.int .i64 (s1.lost+1))) (Qm.of_net hN2 (fun k _ e=>.inl e)) (fun k hk e=>(HS.out k hk).2 (.inl e))
    have hQL:=hQ2.mod (Mod.setBlk (w:=w2) g 3 (.int .i64 (s1.lost+1))) (fun e=>by simp only [oneBlock] at e;omega)
    have hML:=hM2.net hMv HLO.out.2
    clear hN2 hV2 hQ2 hM2 hu2 hB2
    go_wp2_with fail
    go_roundw
    case rel=>exact ⟨k+1,wv',by omega,by go_num,by rw [HT.out,HF.out];exact HLO.out.1,hVL,hMv,hML,hQL⟩
    case measure=>simp [intOf];omega
   ·have hsf:silentB s1.down m=false:=by simpa using hsi
    rw [hsf]
    have HRO:=Hmr (room_any L g wv' mr s1 w2 hN2)
    go_wp2_with fail
    refine HRO.out.mono ?_
    rintro e w3 ⟨rfl,hw3⟩
    subst hw3
    by_cases hro:s1.way.length<200
    ·have hd:decide (s1.way.length<200)=true:=by simpa using hro
     rw [hd]
     have HF:Hid (send1 s1 m=⟨s1.way++[m],s1.lost,s1.down⟩):=by rw [Hid,send1,hsf,Bool.false_or,if_neg (by simp;omega)]
     obtain ⟨wa,wcap,hwv⟩:=hN2.row.slice
     subst hwv
     have c0:=hN2.blk.cell 2 rfl
     have f0:=hN2.blk.frozen 2
     obtain ⟨⟨p0,p1,p2,p3,p4,p5,p6,p7,p8⟩,_⟩:=blk9 hB2
     have HU:Hid (PairsT w3.drew L (.slice ua m.cmd.writes.length ucap) m.cmd.writes):=hu2.mod ((Mod.refl noBlock w3).drew) (Qm.none _ _)
     have HN3:=Hmr hN2
     have HAP:=Hmr hN2.apart
     have HV3:=Hmr hV2
     have hz3:=hM2.size
     have hgz:=hN2.blk.lt
     have hbz:=hB2.lt
     have hml:m.cmd.writes.length<=1000000:=by have:=hgm.2;omega
     have hk63:s1.way.length+1<=maxLen:=by unfold maxLen;omega
     have hk47:(s1.way.length+1)*88<=140737488355328:=by omega
     obtain ⟨us,hus,hrow,hps,hgd⟩:=hN2.row
     have HROW:=Hmr hrow
     have HPS:=Hmr hps
     have HGD:=Hmr hgd
     have hlow:=hN2.low
     clear hN2 hV2 hu2 hrow hps hgd HRO
     go_upto_region 8 with fail
     go_region_law
       ((first
        | (go_simp;go_at_call 169;(refine (ownM_any L m _ _ HU.out hml).mono ?_;rintro e w5 ⟨u5,rfl,hown5,hm5⟩;obtain ⟨ua5,uc5,rfl⟩:=own_slice hown5;have hm35:Mod noBlock w3 w5:=(((Mod.refl noBlock w3).drew).trans hm5);have c5:=hm35.cell c0 id;have f5:=(hm35.frozen (p:=⟨g,2,none⟩) hgz id).trans f0;have z5:=hm35.size;have gz5:g<w5.heap.size:=Nat.lt_of_lt_of_le hgz z5;have HR5:=Hmr (own_mod HROW.out hm35 (fun _ _ _ _=>id));dsimp only [msgV]))
        | (refine step_append_lies _ (by rfl) _ _ _ (by rfl) L 178 i0 _ 9 88 Tryz.underlying151 hi hz0 hz1 hz2 rfl (by omega) _ _ _ (by rfl) (HR5.out.alloc _) ⟨w5.heap.size,0,none⟩ 1 1 (msgCells m (.slice ua5 m.cmd.writes.length uc5)) (by rfl) (by rfl) (World.news_of_block (heap_alloc_new w5 _)) (msg_one _ _ _ _) (by omega) hk63 hk47 (by simp;omega) _ rfl ?_;intro g6 cap6 w6 hown6 hgrow hat hlt6;have hm56:Mod (fun k=>(Value.slice wa s1.way.length wcap).ownBlock=some k) w5 w6:=((Mod.refl _ w5).alloc _).grown hgrow (fun x hx _=>hx);have c6:=hm56.cell c5 HAP.out.1;have f6:=(hm56.frozen (p:=⟨g,2,none⟩) (Nat.lt_of_lt_of_le hgz z5) HAP.out.1).trans f5)
        | fail))
     all_goals
      have hN5:=HN3.out.mod hm35 (Qm.none _ _) (fun _ _=>id)
      have R:=hN5.sent hus (fun i m u h1 h2=>(HPS.out i m u h1 h2).mod hm35 (Qm.none _ _)) HGD.out (PairsT.of_own hown5 (fun k hk=>HN3.out.xb k hk)) hgm hro hgrow rfl hown6 (by simpa using hat)
      have hM5:=hM2.trans (hm35.mono (fun _ _ e=>e.elim))
      have HR:=Hmr R.1
      have hMv6:=hMv.trans R.2.1 (Nat.le_trans hz3 z5)
      have hM6:=hM5.net hMv R.2.2
      have hV5:=HV3.out.mod hm35 (Qm.none _ _) (fun _ _=>id)
      have hV6:=hV5.mod R.2.2 hN5.qm (fun k hk e=>by
       obtain ⟨h1,h2⟩:=HS.out k hk
       rcases e with e | e | e
       ·exact h2 (.inl e)
       ·rcases hMv with h3 | h3
        ·exact h2 (.inr (.inl (by rw [<-h3];exact e)))
        ·have:=h3 k e;omega
       ·exact h2 (.inr (.inr e)))
      have hQ6:=(hQ2.mod hm35 id).mod R.2.2 (hN5.not_blk (hQ2.mod hm35 id) (by decide) (by decide))
      go_wp2_with fail
      go_roundw
      case rel=>exact ⟨k+1,_,by omega,by go_num,by rw [HT.out,HF.out];exact HR.out,hV6,hMv6,hM6,hQ6⟩
      case measure=>simp [intOf];omega
    ·have hd:decide (s1.way.length<200)=false:=by simpa using hro
     rw [hd]
     have HF:Hid (send1 s1 m=⟨s1.way,s1.lost+1,s1.down⟩):=by rw [Hid,send1,hsf,Bool.false_or,if_pos (by simp;omega)]
     have c1:=hN2.blk.cell 3 rfl
     have f1:=hN2.blk.frozen 3
     have hl1:=hN2.lo
     have HLO:=Hmr (hN2.loses (s1.lost+1) (by omega))
     have hVL:=hV2.mod (Mod.setBlk (w:=w3) g 3 (.int .i64 (s1.lost+1))) (Qm.of_net hN2 (fun k _ e=>.inl e)) (fun k hk e=>(HS.out k hk).2 (.inl e))
     have hQL:=hQ2.mod (Mod.setBlk (w:=w3) g 3 (.int .i64 (s1.lost+1))) (fun e=>by simp only [oneBlock] at e;omega)
     have hML:=hM2.net hMv HLO.out.2
     clear hN2 hV2 hQ2 hM2 hu2 hB2
     go_wp2_with fail
     go_roundw
     case rel=>exact ⟨k+1,wv',by omega,by go_num,by rw [HT.out,HF.out];exact HLO.out.1,hVL,hMv,hML,hQL⟩
     case measure=>simp [intOf];omega
  ·have hkn:k=ms.length:=by omega
   subst hkn
   rw [List.take_length] at hN hlk
   have c1:=hN.blk.cell 3 rfl
   have hlo1:=hN.lo
   have HN:=Hmr hN
   clear hN hV hQ
   go_wp2_with fail
   go_ret
   exact ⟨wv',by go_num,HN.out,hMv,hM⟩
end Go.Proofs.YtiblcbdkiecbgaaGreatDoor
