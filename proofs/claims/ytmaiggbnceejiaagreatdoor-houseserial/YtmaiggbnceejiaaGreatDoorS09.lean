import Derived.Test.YtmaiggbnceejiaaGreatDoorS08
import Derived.Maps.StringElems
import Derived.Maps.RangeWalk
set_option linter.unusedVariables false
set_option maxRecDepth 100000
set_option maxHeartbeats 16000000
namespace Go.Proofs.YtmaiggbnceejiaaGreatDoor
open Go.RowKit Go.Lib Go.Maps
theorem Tryz.ry:(Tryz.prog.info? 3).map (fun i=>(i.zero,i.size,i.bytes))=some (some (.int .i64 0),1,8):=by kernel_rfl
def EO(l:List Int):List Value:=l.map (Value.int .i64)
theorem zOc(l:List Int)(x:Int):EO (l++[x])=EO l++[.int .i64 x]:=by simp [EO]
def jM(w:World)(B:Nat)(v:Value)(l:List Int):Prop:=w.ownsRow B 3 1 v l.length (EO l)
theorem jM.mod{G:Nat->Prop}{w w':World}{B:Nat}{v:Value}{os:List Int}(h:jM w B v os)(hm:Mod G w w')(hG:∀ k,v.ownBlock=some k->¬ G k):jM w' B v os:=fm h hm (fun k _ _ e=>hG k e)
theorem yMe(L:Nat)(v:Value)(l:List de)(w:World)(hv:vw w L v l)(hl:l.length<=1000) :
  Calls Tryz.prog 123 #[v] w fun e w'=>∃ u,e=.returned u/\jM w' w.heap.size u (l.map (·.tx))/\Mod dZ w w':=by
 obtain ⟨j0,hj,Hf,He,Hd⟩:=info_parts Tryz.ry;have HV:=dV hv;obtain ⟨a,cap,rfl,hc1,hc2⟩:=fV.slice hv;unfold maxLen at hc2;clear hv;have CS:Hid (jM w w.heap.size (.slice none 0 0) []):=World.ownsRow_nil _ _ _ _;go_enter Tryz.func123,Tryz.ntmps123;go_wp2_with fail;go_loopw [3,8] (fun u i wr=>∃ k:Nat,k<=l.length/\i=.int .i64 k/\jM wr w.heap.size u ((l.take k).map (·.tx))/\Mod dZ w wr) (fun _ i _=>l.length - (intOf i).toNat)
 case atStart=>exact ⟨0,aT _,rfl,by simpa using CS.out,Mod.refl _ _⟩
 case round=>
  rename_i u _;obtain ⟨k,hk,rfl,hrow,hM⟩:=hrel;obtain ⟨ua,dp,rfl⟩:=eu hrow;have HM:=dV hM;have fY:=dV hrow;clear hrow hM CS;by_cases hlt:k<l.length
  ·obtain ⟨d,hd⟩:∃ d,l[k]?=some d:=⟨_,aA hlt⟩;obtain ⟨b,off,rfl,_,q0,q1⟩:=HV.out.at hd;have p0:=HM.out.cell q0 id;have p1:=HM.out.cell q1 id;have htk:(l.take (k+1)).map (·.tx)=(l.take k).map (·.tx)++[d.tx]:=by rw [qg hd,ay];rfl
   have Fo:=dV htk;obtain ⟨w3,hw3⟩:∃ q,q=wr.alloc (.cells #[.int .i64 d.tx,.int .i64 d.mode] 170):=⟨_,rfl⟩;have dy:Mod dZ wr w3:=by rw [hw3];exact (Mod.refl _ wr).alloc _
   have hb3:dg w3 wr.heap.size (fS d) 170:=by rw [hw3];exact dg.new wr (fS d) 170
   have r0:=hb3.cell 0 rfl;have BE:Hid (w3.ownsRow w.heap.size 3 1 (.slice ua (List.map (·.tx) (l.take k)).length dp) (List.map (·.tx) (l.take k)).length (EO ((l.take k).map (·.tx)))):=fY.out.mod dy (fun _ _=>id);have iI:=dV (HM.out.trans dy);have hlk:(List.map (·.tx) (l.take k)).length=k:=by simp;omega
   rw [hlk] at BE;have iJ:k+1<=maxLen:=by unfold maxLen;omega
   have iK:(k+1)*8<=140737488355328:=by omega
   have hz3:=iI.out.size;have jd:(k:Int)<(l.length:Int):=by omega
   have lJ:(0:Int)<=(k:Int):=by omega
   rw [hlk];have zI:=dV hlk;clear hd q0 q1 htk hb3 dy hlk;go_upto_region 5 with fail;rw [<-hw3];clear hw3 p0 p1;go_wp2_with (first
    | (at_builtin;refine wpList_append_own_at _ rfl (.tmp 12) (.tmp 15) 26 rfl w.heap.size 3 j0 _ 1 8 Tryz.underlying26 hj Hf He Hd rfl (by decide) _ _ _ rfl (BE.out.alloc _) ⟨w3.heap.size,0,none⟩ 1 1 [.int .i64 d.tx] rfl rfl (World.news_of_block (heap_alloc_new w3 _)) (by simp [Value.oneCell']) iJ iK (by simp;omega) ?_)
    | fail)
   intro v7 w7 eJ eS _ iq;have iO:Mod dZ w w7:=(iI.out.alloc _).grown eS (fun y hy hlt=>by have:=(mT BE.out hy).1;omega);obtain ⟨a7,fE,py⟩:=eu eJ;subst py;have Pf:=dV eJ;have yQ:=dV iO;clear eJ eS iq iO;go_wp2_with fail;go_roundw
   case rel=>
    refine ⟨k+1,by omega,by go_num,?_,yQ.out⟩;rw [Fo.out];unfold jM;rw [zOc,aD,zI.out,List.map_take];exact Pf.out
   case measure=>simp [intOf];omega
  ·obtain rfl:k=l.length:=by omega
   have Pu:Hid (jM wr w.heap.size (.slice ua l.length dp) (l.map (·.tx))):=by
    have h:=fY.out;rw [Hid];unfold jM at h ⊢;rw [bJ,ar] at h;rw [ar];exact h
   clear fY;rw [show (List.map (fun x:de=>x.tx) (l.take l.length)).length=l.length by simp];go_wp2_with fail;go_ret;exact ⟨_,rfl,Pu.out,HM.out⟩
theorem yLe(B:Nat)(v:Value)(l:List de)(w:World)(hR:ez w B v l)(hl:l.length<=1000) :
  Calls Tryz.prog 152 #[v] w fun e w'=>∃ u,e=.returned u/\ez w' w.heap.size u l/\Mod dZ w w':=by
 rcases hR.2 with ⟨rfl,h0⟩ | ⟨g,cap,cur,rfl,q1,q2,q3,q4,q5,q6⟩
 ·have nM:l=[]:=aR h0;subst nM;have hen:(binOp .eql 166 (.slice none 0 0) (.slice none 0 0)).run Tryz.prog w=.ok (.bool true) w:=by kernel_rfl
  have CS:Hid (ez w w.heap.size (.slice none 0 0) []):=World.ownsRow_nil _ _ _ _;clear hR;go_enter Tryz.func152,Tryz.ntmps152;go_wp2_with fail;go_ret;exact ⟨_,rfl,CS.out,Mod.refl _ _⟩
 ·refine (yLf ⟨g,0,none⟩ l.length cap l w rfl (fun j u hu=>hR.cells (g:=g) rfl j u hu) hl).mono ?_;rintro e w' ⟨g',cap',rfl,hrow,hm⟩;exact ⟨_,rfl,hrow,hm⟩
theorem yEn(B kb:Nat)(hv wv:Value)(held:List de)(c:de)(w:World)(hk:dg w kb [hv,wv] 168)(hh:ez w B hv held)(h1:held.length<=1000) :
  Calls Tryz.prog 114 #[.pointer (some ⟨kb,0,none⟩),.agg #[.int .i64 c.tx,.int .i64 c.mode]] w fun e w'=>∃ u,e=.returned u/\jM w' w.heap.size u (xO held c)/\Mod dZ w w':=by
 have tF:∀ fn first cap w,(Instr.makeFunc fn first cap).run Tryz.prog w=.ok (.func fn first cap) w:=fun _ _ _ _=>rfl
 obtain ⟨w1,hw1⟩:∃ q,q=w.alloc (.cells #[.int .i64 c.tx,.int .i64 c.mode] 170):=⟨_,rfl⟩;have dh:Mod dZ w w1:=by rw [hw1];exact (Mod.refl _ w).alloc _
 have hb1:dg w1 w.heap.size (fS c) 170:=by rw [hw1];exact dg.new w (fS c) 170
 have HC:=dV (yLe B hv held w1 (hh.mod dh (fun _ _=>id)) h1);have HK:=dV (hk.mod dh id);have fJ:=dV dh;have kA:=dV hb1;obtain ⟨ha,hcap,rfl⟩:=eu hh;have c0:=HK.out.cell 0 rfl;have hkl:=hk.lt;clear dh hb1 hk hh;go_enter Tryz.func114,Tryz.ntmps114;go_upto_region 1 with fail;rw [<-hw1];have Ph:Hid (w1.heap.size=w.heap.size+1):=by rw [hw1,Hid];simp
 clear hw1;go_wp2_with fail;refine HC.out.mono ?_;rintro e w2 ⟨u,rfl,sy,hm2⟩;have hb2:=kA.out.mod hm2 id;have QV:=dV (Ug 150 w.heap.size w1.heap.size (EJ c) u held w2 sy (yGo hb2) hb2.lt (fun e=>by have:=(mT sy e).1;have:=Ph.out;omega) h1);have gE:=dV (fJ.out.trans hm2);have ZZ:Hid (∀ b,u.ownBlock=some b->w1.heap.size<=b):=fun b hb=>(mT sy hb).1;obtain ⟨ua,dp,rfl⟩:=eu sy;clear sy hm2 hb2 c0 HC HK kA;go_wp2_with fail;refine QV.out.mono ?_;rintro e w3 ⟨u3,rfl,hr3,ho3,dy⟩;have hlk:(nD (EJ c) held).length<=1000:=aJ (bB _ _) h1;have HT:=dV (yMe w3.heap.size u3 (nD (EJ c) held) w3 (hr3.mB (aF _)) hlk);have iI:Hid (Mod dZ w w3):=gE.out.trans' dy (fun i hi e=>by have:=ZZ.out i e;have:=Ph.out;omega);obtain ⟨u3a,u3cap,rfl⟩:=eu hr3;clear hr3 dy ho3 QV;go_wp2_with fail;refine HT.out.mono ?_;rintro e w4 ⟨u4,rfl,hr4,gR⟩;have Hx:=uL hr4 iI.out.size;obtain ⟨u4a,Mo,rfl⟩:=eu hr4;have Zd:Hid (jM w4 w.heap.size (.slice u4a (nD (EJ c) held).length Mo) (xO held c)):=by
  rw [Hid];unfold jM xO;rw [ar] at Hx ⊢;exact Hx
 clear hr4 Hx;go_wp2_with fail;go_ret;exact ⟨_,rfl,Zd.out,iI.out.trans gR⟩
structure JN(w:World)(B kb:Nat)(hv wv:Value)(held waits:List de):Prop where
 blk:dg w kb [hv,wv] 168
 h:ez w B hv held
 w:ez w B wv waits
 ne:∀ x,hv.ownBlock=some x->wv.ownBlock≠some x
theorem xR{w:World}{B kb:Nat}{v:Value}{cs:List Value}{l:List de}(hb:dg w kb cs 168)(hr:ez w B v l):v.ownBlock≠some kb:=fun e=>by
 obtain ⟨_,_,cur,hc⟩:=mT hr e;unfold dg at hb;rw [hc] at hb;simp at hb
theorem yOc(B kb:Nat)(hv wv:Value)(held waits:List de)(t:Int)(w:World)(hk:JN w B kb hv wv held waits)(h1:held.length<=1000)(h2:waits.length<=1000) :
  Calls Tryz.prog 142 #[.pointer (some ⟨kb,0,none⟩),.int .i64 t] w fun e w'=>e=.returned (.tuple #[])/\∃ hv' iN,JN w' B kb hv' iN (kV held t) (kV waits t)/\hv'.ownBlock=hv.ownBlock/\iN.ownBlock=wv.ownBlock/\Mod (fun x=>x=kb\/hv.ownBlock=some x\/wv.ownBlock=some x) w w':=by
 have tF:∀ fn first cap w,(Instr.makeFunc fn first cap).run Tryz.prog w=.ok (.func fn first cap) w:=fun _ _ _ _=>rfl
 obtain ⟨w1,hw1⟩:∃ q,q=w.alloc (.cells #[.int .i64 t] 3):=⟨_,rfl⟩;have dh:Mod dZ w w1:=by rw [hw1];exact (Mod.refl _ w).alloc _
 have hb1:dg w1 w.heap.size [.int .i64 t] 3:=by rw [hw1];exact dg.new w [.int .i64 t] 3
 have Ae:=hk.blk.mod dh id;have hh1:=hk.h.mod dh (fun _ _=>id);have NT:=hk.w.mod dh (fun _ _=>id);have Hy:hv.ownBlock≠some w.heap.size:=fun e=>by have:=(mT hk.h e).2.1;omega
 have hqw:wv.ownBlock≠some w.heap.size:=fun e=>by have:=(mT hk.w e).2.1;omega
 have Xk:hv.ownBlock≠some kb:=xR hk.blk hk.h;have Ab:wv.ownBlock≠some kb:=xR hk.blk hk.w;have hkq:kb≠w.heap.size:=by have:=hk.blk.lt;omega
 have HD1:=dV (Ug 167 w.heap.size B (fun c=>decide (c.tx=t)) hv held w1 hh1 (yDs hb1) hb1.lt Hy h1);have HD2:Hid (∀ w2:World,Mod (fun x=>hv.ownBlock=some x\/x=kb) w1 w2->Calls Tryz.prog 151 #[wv,.func (.func 167) #[] #[.pointer (some ⟨w.heap.size,0,none⟩)]] w2 fun e w'=>∃ v',e=.returned v'/\ez w' B v' (kV waits t)/\v'.ownBlock=wv.ownBlock/\Mod (fun x=>wv.ownBlock=some x) w2 w'):=fun w2 hm2=>by
  have hb2:=hb1.mod hm2 (fun e=>e.elim Hy (fun e=>hkq e.symm));exact Ug 167 w.heap.size B (fun c=>decide (c.tx=t)) wv waits w2 (NT.mod hm2 (fun x hx e=>e.elim (fun e=>hk.ne x e hx) (fun e=>Ab (by rw [<-e];exact hx)))) (yDs hb2) hb2.lt hqw h2
 have HKY:=dV hk;have HKB:=dV Ae;have fJ:=dV dh;obtain ⟨ha,hcap,rfl⟩:=eu hk.h;obtain ⟨wa,ft,rfl⟩:=eu hk.w;have c0:=Ae.cell 0 rfl;have hkl:=Ae.lt;have hfz:=Ae.frozen 0;clear dh hb1 Ae hh1 NT hk;go_enter Tryz.func142,Tryz.ntmps142;go_upto_region 1 with fail;rw [<-hw1];clear hw1;go_wp2_with fail;refine HD1.out.mono ?_;rintro e w2 ⟨u,rfl,sy,XO,hm2⟩;have hb2:=HKB.out.mod hm2 Xk;have hb3:=hb2.set 0 u;obtain ⟨w3,hw3⟩:∃ q,q=w2.setCell ⟨kb,0,none⟩ u:=⟨_,rfl⟩;rw [<-hw3] at hb3;have dy:Mod (eA kb) w2 w3:=by rw [hw3];exact Mod.dt kb 0 u
 have jK:Mod (fun x=>(Value.slice ha held.length hcap).ownBlock=some x\/x=kb) w1 w3:=(hm2.mono (fun _ _ e=>.inl e)).trans (dy.mono (fun _ _ e=>.inr e));have HD:=dV (HD2.out w3 jK);have qO:Hid (dg w3 kb [u,.slice wa waits.length ft] 168):=hb3;have ZZ:Hid (ez w3 B u (kV held t)):=sy.mod dy (fun x hx e=>by simp only [eA] at e;rw [e,XO] at hx;exact Xk hx);have Su:=dV XO;have Zt:=dV jK;have hf2:=hb2.frozen 0;have d0:=hb2.cell 0 rfl;have Xl:=hb2.lt;obtain ⟨ua,dp,hu⟩:=eu sy;subst hu;clear hm2 hb2 hb3 sy XO HD1 HD2 c0 dy jK hfz;go_upto_region 3 with fail;rw [<-hw3];clear hw3 d0 hf2 Xl;have c1:=qO.out.cell 1 rfl;have hkl3:=qO.out.lt;go_wp2_with fail;refine HD.out.mono ?_;rintro e w4 ⟨v4,rfl,hr4,SK,gR⟩;have hb4:=qO.out.mod gR Ab;have Kp:=hb4.frozen 1;have d1:=hb4.cell 1 rfl;have hkl4:=hb4.lt;have nR:=hb4.set 1 v4;have eP:Mod (eA kb) w4 (w4.setCell ⟨kb,1,none⟩ v4):=Mod.dt kb 1 v4;have gN:Hid (∃ hv' iN,JN (w4.setCell ⟨kb,1,none⟩ v4) B kb hv' iN (kV held t) (kV waits t)/\hv'.ownBlock=(Value.slice ha held.length hcap).ownBlock/\iN.ownBlock=(Value.slice wa waits.length ft).ownBlock/\Mod (fun x=>x=kb\/(Value.slice ha held.length hcap).ownBlock=some x\/(Value.slice wa waits.length ft).ownBlock=some x) w (w4.setCell ⟨kb,1,none⟩ v4)):=by
  refine ⟨_,v4,⟨nR,?_,?_,?_⟩,Su.out,SK,?_⟩
  ·refine (ZZ.out.mod gR (fun x hx e=>?_)).mod eP (fun x hx e=>?_)
   ·rw [Su.out] at hx;exact HKY.out.ne x hx e
   ·simp only [eA] at e;rw [e,Su.out] at hx;exact Xk hx
  ·exact hr4.mod eP (fun x hx e=>by simp only [eA] at e;rw [e,SK] at hx;exact Ab hx)
  ·intro x hx;rw [Su.out] at hx;rw [SK];exact HKY.out.ne x hx
  ·refine ((fJ.out.mono (fun _ _ e=>e.elim)).trans (Zt.out.mono (fun x _ e=>e.elim (fun e=>.inr (.inl e)) .inl))).trans ((gR.mono (fun x _ e=>.inr (.inr e))).trans (eP.mono (fun x _ e=>.inl e)))
 obtain ⟨va,Cs,hv4⟩:=eu hr4;subst hv4;clear hr4 SK gR hb4 nR eP HD;go_wp2_with fail
 first
  | go_end0
  | refine bodyPost_normal (results_none rfl _ _ _) ?_
 exact ⟨rfl,gN.out⟩
theorem zQh:∀ (l:List de) (n:Nat) (c:de),n<l.length->ej (l.set n c)=((ej l).set (n*2) (.int .i64 c.tx)).set (n*2+1) (.int .i64 c.mode)
 | [],n,c,h=>by simp at h
 | x :: l,0,c,h=>by simp [ej,fS]
 | x :: l,n+1,c,h=>by
  have ih:=zQh l n c (by simpa using h);rw [dI,ej,ej,ih,show (n+1)*2=(fS x).length+n*2 by simp [fS];omega];rw [dP _ _ (by omega),dP _ _ (by omega)];congr 2
  ·congr 1;omega
  ·omega
theorem ez.set{w:World}{B g cap:Nat}{l:List de}(h:ez w B (.slice (some ⟨g,0,none⟩) l.length cap) l){n:Nat}(hn:n<l.length)(c:de) :
  ez ((w.setCell ⟨g,n*2,none⟩ (.int .i64 c.tx)).setCell ⟨g,n*2+1,none⟩ (.int .i64 c.mode)) B (.slice (some ⟨g,0,none⟩) l.length cap) (l.set n c):=by
 rcases h.2 with ⟨e,_⟩ | ⟨g',cap',cur,e,q1,q2,q3,q4,q5,q6⟩
 ·cases e
 ·cases e
  have hb:dg w g cur.toList 170:=by simpa [dg] using q2
  have hb2:=(hb.set (n*2) (.int .i64 c.tx)).set (n*2+1) (.int .i64 c.mode);refine ⟨by rw [wH,ag],.inr ⟨g,cap,_,by rw [ag],q1,hb2,by rw [ag];exact q3,q4,by simpa using q5,?_⟩⟩;show List.take _ ((cur.toList.set _ _).set _ _)=_;rw [ag,zQh l n c hn,<-q6,List.take_set,List.take_set]
def Rn(w:World)(B:Nat)(v:Value)(l:List de)(c:de)(e:Ending)(w':World):Prop:=
 ∃ u,e=.returned u/\ez w' B u (jS l c)/\Mod (fun b=>v.ownBlock=some b) w w'/\(u.ownBlock=v.ownBlock\/∀ b,u.ownBlock=some b->w.heap.size<=b)
theorem yGx(B:Nat)(v:Value)(l:List de)(c:de)(w:World)(hR:ez w B v l)(hr:kZ l)(hl:l.length<=900)(hB:B<=w.heap.size) :
  Calls Tryz.prog 112 #[v,.agg #[.int .i64 c.tx,.int .i64 c.mode]] w (Rn w B v l c):=by
 obtain ⟨w1,hw1⟩:∃ q,q=w.alloc (.cells #[.int .i64 c.tx,.int .i64 c.mode] 170):=⟨_,rfl⟩;have dh:Mod dZ w w1:=by rw [hw1];exact (Mod.refl _ w).alloc _
 have hb1:dg w1 w.heap.size (fS c) 170:=by rw [hw1];exact dg.new w (fS c) 170
 have Il:=hR.mod dh (fun _ _=>id);have HP:=dV (yBq w1.heap.size v l c.tx w1 (Il.mB (aF _)) hr (by omega));have hle:=Qj l c.tx;have wy:Hid (jS l c=if mJ l c.tx then l.set (gd l c.tx) c else l.take (gd l c.tx)++c :: l.drop (gd l c.tx)):=rfl;have fJ:=dV dh;have kA:=dV hb1;have Fq:=dV Il;have HNV:Hid (v.ownBlock≠some w.heap.size):=fun e=>by have:=(mT hR e).2.1;omega
 have lq:Hid (mJ l c.tx=true->gd l c.tx<l.length):=fun h=>by obtain ⟨d,h1,_⟩:=Mk h;exact (aB.1 h1).1
 generalize gd l c.tx=n at HP hle wy lq;have p0:=hb1.cell 0 rfl;have p1:=hb1.cell 1 rfl;have hz1:=hb1.lt
 cases hf:mJ l c.tx with
 | true=>
  have hn:=lq.out hf;rw [hf] at HP wy;simp only [if_true] at wy;rcases hR.2 with ⟨_,h0⟩ | ⟨g,cap,cur,rfl,q1,q2,q3,q4,q5,q6⟩
  ·omega
  have hg:g<w.heap.size:=(aG.1 q2).1;have hcz:cur.size=cap*2:=q5;have hbl:dg w g cur.toList 170:=by simpa [dg] using q2
  have sW:(n:Int)<(l.length:Int):=by omega
  have hn0:(0:Int)<=(n:Int):=by omega
  have TH:=dV hbl;have kr:g≠w.heap.size:=by omega
  clear hR Il dh hb1 q2 q6 hf hr q5 hbl lq;go_enter Tryz.func112,Tryz.ntmps112;go_upto_region 1 with fail;rw [<-hw1];clear hw1;go_wp2_with fail;refine HP.out.mono ?_;rintro e w2 ⟨rfl,hm2⟩;have yB:dg w2 g cur.toList 170:=(TH.out.mod fJ.out id).mod hm2 id;have r0:=hm2.cell p0 id;have r1:=hm2.cell p1 id;have hz2:=aH hz1 hm2.size;obtain ⟨y0,hy0⟩:∃ y,w2.cell? ⟨g,n*2,none⟩=some y:=⟨_,yB.cell (n*2) (aA (by simp;omega))⟩;obtain ⟨y1,hy1⟩:∃ y,w2.cell? ⟨g,n*2+1,none⟩=some y:=⟨_,yB.cell (n*2+1) (aA (by simp;omega))⟩;have f0:=yB.frozen (n*2);have f1:=yB.frozen (n*2+1);have hg2:=yB.lt;have gN:Hid (Rn w B (.slice (some ⟨g,0,none⟩) l.length cap) l c (.returned (.slice (some ⟨g,0,none⟩) l.length cap)) ((w2.setCell ⟨g,n*2,none⟩ (.int .i64 c.tx)).setCell ⟨g,n*2+1,none⟩ (.int .i64 c.mode))):=by
   refine ⟨_,rfl,?_,?_,.inl rfl⟩
   ·rw [wy.out];exact (Fq.out.mod hm2 (fun _ _=>id)).set hn c
   ·refine ((fJ.out.trans hm2).mono (fun _ _ e=>e.elim)).trans (((Mod.dt g (n*2) _).trans (Mod.dt g (n*2+1) _)).mono (fun x _ e=>?_));simp only [eA] at e;rw [e];rfl
  clear yB hm2 p0 p1 HP;go_wp2_with fail;go_ret;exact gN.out
 | false=>
  rw [hf] at HP wy;simp only [dB,if_false] at wy;have HI:Hid (∀ w2,Mod dZ w1 w2->Calls Tryz.prog 149 #[v,.int .i64 n,.slice (some ⟨w2.heap.size,0,none⟩) 1 1] (w2.alloc (.cells #[.int .i64 c.tx,.int .i64 c.mode] 170)) (Rn w B v l c)):=fun w2 hm2=>by
   have dy:Mod dZ w2 (w2.alloc (.cells #[.int .i64 c.tx,.int .i64 c.mode] 170)):=(Mod.refl _ w2).alloc _;have hb3:dg (w2.alloc (.cells #[.int .i64 c.tx,.int .i64 c.mode] 170)) w2.heap.size (fS c) 170:=dg.new w2 (fS c) 170;have hw3:=(fJ.out.trans hm2).trans dy;refine (yFs B v l n c w2.heap.size _ (hR.mod hw3 (fun _ _=>id)) hle hb3 (fun e=>by have:=(mT hR e).2.1;have:=(fJ.out.trans hm2).size;omega) (by omega) (aJ hB hw3.size)).mono ?_;rintro e w4 ⟨u,rfl,hrow,gR,hat⟩;refine ⟨u,rfl,?_,(hw3.mono (fun _ _ e=>e.elim)).trans gR,hat.imp id (fun h b hb=>aJ hw3.size (h b hb))⟩;unfold ez;rw [wy.out];have:(l.take n++c :: l.drop n).length=l.length+1:=by simp;omega
   rw [this];exact hrow
  have Za:=dV hR;obtain ⟨va,Cs,rfl⟩:=eu hR;clear hR Il dh hb1 hf hr lq;go_enter Tryz.func112,Tryz.ntmps112;go_upto_region 1 with fail;rw [<-hw1];clear hw1;go_wp2_with fail;refine HP.out.mono ?_;rintro e w2 ⟨rfl,hm2⟩;have r0:=hm2.cell p0 id;have r1:=hm2.cell p1 id;have hz2:=aH hz1 hm2.size;have HI2:=dV (HI.out w2 hm2);clear p0 p1 HI hm2;go_wp2_with fail;refine HI2.out.mono ?_;rintro e w3 ⟨u,rfl,hW⟩;have HW:=dV hW;obtain ⟨ua,dp,rfl⟩:=eu hW.1;clear hW;go_wp2_with fail;go_ret;exact ⟨_,rfl,HW.out⟩
def zT(x:List de × List de × List de)(c:de):List de × List de × List de:=if pc x.1 x.2.1 c then (jS x.1 c,x.2.1,x.2.2++[c]) else (x.1,x.2.1++[c],x.2.2)
theorem Ty:∀ (q held kept got:List de),q.foldl zT (held,kept,got)=((jO held kept q).1,(jO held kept q).2.1,got++(jO held kept q).2.2)
 | [],held,kept,got=>by simp [jO]
 | c :: q,held,kept,got=>by
  rw [cV];by_cases h:pc held kept c=true
  ·rw [show zT (held,kept,got) c=(jS held c,kept,got++[c]) by simp [zT,h],Ty q];simp [jO,h]
  ·rw [show zT (held,kept,got) c=(held,kept++[c],got) by simp [zT,h],Ty q];simp [jO,h]
theorem ez.snoc{w w':World}{B n:Nat}{u:Value}{l:List de}{c:de}(hn:n=l.length)(h:w'.ownsRow B 170 2 u (n+1) (ej l++fS c)):ez w' B u (l++[c]):=by
 subst hn;unfold ez;rw [MW,MY,aD];exact h
theorem zSe(c:de):∀ u∈fS c,u.oneCell'=true:=by
 intro u hu;simp [fS] at hu;rcases hu with rfl | rfl <;> rfl
structure zO(w wr:World)(B kb:Nat)(hv:Value)(held waits:List de)(k:Nat)(gv hv' iN:Value)(H K G:List de):Prop where
 fold:(waits.take k).foldl zT (held,[],[])=(H,K,G)
 ky:JN wr B kb hv' iN H K
 got:ez wr B gv G
 ZA:kZ H
 ga:∀ x,gv.ownBlock=some x->hv'.ownBlock≠some x/\iN.ownBlock≠some x
 ha:hv'.ownBlock=hv.ownBlock\/∀ x,hv'.ownBlock=some x->w.heap.size<=x
 wa:∀ x,iN.ownBlock=some x->w.heap.size<=x
 gn:∀ x,gv.ownBlock=some x->w.heap.size<=x
 hl:H.length<=held.length+k
 kl:K.length<=k
 gl:G.length<=k
 md:Mod (fun x=>x=kb\/hv.ownBlock=some x) w wr
theorem yCw{waits:List de}{k:Nat}{c:de}{x y:List de × List de × List de}{s:List de × List de × List de}(hc:waits[k]?=some c)(h:(waits.take k).foldl zT s=x)(hy:zT x c=y):(waits.take (k+1)).foldl zT s=y:=by
 rw [qg hc,al,h];exact hy
theorem zO.wait{w wr w3 w6:World}{B kb:Nat}{hv:Value}{held waits:List de}{k:Nat}{gv hv' iN u:Value}{H K G:List de}{c:de}(h:zO w wr B kb hv held waits k gv hv' iN H K G)(hc:waits[k]?=some c)(hf:pc H K c=false)(dy:Mod dZ wr w3)(hw:w.heap.size<=wr.heap.size)
  (hu:ez w6 B u (K++[c])) (fs:Mod (fun x=>iN.ownBlock=some x) w3 w6) (hat:u.ownBlock=iN.ownBlock\/∀ x,u.ownBlock=some x->w3.heap.size<=x) :
  zO w (w6.setCell ⟨kb,1,none⟩ u) B kb hv held waits (k+1) gv hv' u H (K++[c]) G:=by
 have iO:Mod (eA kb) w6 (w6.setCell ⟨kb,1,none⟩ u):=Mod.dt kb 1 u;have z3:=dy.size;have Ab:=xR h.ky.blk h.ky.w;have hkh:=xR h.ky.blk h.ky.h;have hkg:=xR h.ky.blk h.got;have hb3:=h.ky.blk.mod dy id;have nQ:=hb3.mod fs Ab;have AI:∀ x,u.ownBlock=some x->iN.ownBlock=some x\/w3.heap.size<=x:=fun x hx=>by
  rcases hat with e | e
  ·exact .inl (by rw [<-e];exact hx)
  ·exact .inr (e x hx)
 have hlt:∀ {v:Value} {l:List de},ez wr B v l->∀ x,v.ownBlock=some x->x<w3.heap.size:=fun hr x hx=>aH (mT hr hx).2.1 z3;have hh:ez (w6.setCell ⟨kb,1,none⟩ u) B hv' H:=((h.ky.h.mod dy (fun _ _=>id)).mod fs (fun x hx e=>h.ky.ne x hx e)).mod iO (fun x hx e=>by simp only [eA] at e;rw [e] at hx;exact hkh hx);have hg:ez (w6.setCell ⟨kb,1,none⟩ u) B gv G:=((h.got.mod dy (fun _ _=>id)).mod fs (fun x hx e=>(h.ga x hx).2 e)).mod iO (fun x hx e=>by simp only [eA] at e;rw [e] at hx;exact hkg hx);refine ⟨yCw hc h.fold (by unfold zT;simp [hf]),⟨nQ.set 1 u,hh,hu.mod iO (fun x hx e=>?_),fun x hx e=>?_⟩,hg,h.ZA,fun x hx=>⟨(h.ga x hx).1,fun e=>?_⟩,h.ha,fun x hx=>?_,h.gn,by have:=h.hl;omega,by have:=h.kl;simp;omega,by have:=h.gl;omega,?_⟩
 ·simp only [eA] at e;rw [e] at hx;rcases AI kb hx with q | q
  ·exact Ab q
  ·have:=hb3.lt;omega
 ·rcases AI x e with q | q
  ·exact h.ky.ne x hx q
  ·have:=hlt h.ky.h x hx;omega
 ·rcases AI x e with q | q
  ·exact (h.ga x hx).2 q
  ·have:=hlt h.got x hx;omega
 ·rcases AI x hx with q | q
  ·exact h.wa x q
  ·omega
 ·refine (h.md.trans (dy.mono (fun _ _ e=>e.elim))).trans' ((fs.mono (G':=fun x=>iN.ownBlock=some x\/x=kb) (fun _ _ e=>.inl e)).trans (iO.mono (fun _ _ e=>.inr e))) (fun x hx e=>?_);rcases e with e | e
  ·have:=h.wa x e;omega
  ·exact .inl e
theorem zO.gets{w wr w3 w6 w8 w9:World}{B kb:Nat}{hv:Value}{held waits:List de}{k:Nat}{gv hv' iN u g':Value}{H K G:List de}{c:de}(h:zO w wr B kb hv held waits k gv hv' iN H K G)(hc:waits[k]?=some c)(hf:pc H K c=true)(dy:Mod dZ wr w3)(hw:w.heap.size<=wr.heap.size)
  (hu:ez w6 B u (jS H c)) (fs:Mod (fun x=>hv'.ownBlock=some x) w3 w6) (hat:u.ownBlock=hv'.ownBlock\/∀ x,u.ownBlock=some x->w3.heap.size<=x)
  (oT:Mod dZ (w6.setCell ⟨kb,0,none⟩ u) w8) (hg':ez w9 B g' (G++[c])) (nn:Mod (fun x=>gv.ownBlock=some x) w8 w9) (vO:g'.ownBlock=gv.ownBlock\/∀ x,g'.ownBlock=some x->w8.heap.size<=x) :
  zO w w9 B kb hv held waits (k+1) g' u iN (jS H c) K (G++[c]):=by
 have iO:Mod (eA kb) w6 (w6.setCell ⟨kb,0,none⟩ u):=Mod.dt kb 0 u;have z3:=dy.size;have z6:=fs.size;have z7:=iO.size;have z8:=oT.size;have Ab:=xR h.ky.blk h.ky.w;have hkh:=xR h.ky.blk h.ky.h;have hkg:=xR h.ky.blk h.got;have hb3:=h.ky.blk.mod dy id;have nQ:=hb3.mod fs hkh;have AI:∀ x,u.ownBlock=some x->hv'.ownBlock=some x\/w3.heap.size<=x:=fun x hx=>by
  rcases hat with e | e
  ·exact .inl (by rw [<-e];exact hx)
  ·exact .inr (e x hx)
 have hgb:∀ x,g'.ownBlock=some x->gv.ownBlock=some x\/w8.heap.size<=x:=fun x hx=>by
  rcases vO with e | e
  ·exact .inl (by rw [<-e];exact hx)
  ·exact .inr (e x hx)
 have hlt:∀ {v:Value} {l:List de},ez wr B v l->∀ x,v.ownBlock=some x->x<w3.heap.size:=fun hr x hx=>aH (mT hr hx).2.1 z3;have Wy:u.ownBlock≠some kb:=fun e=>by
  rcases AI kb e with q | q
  ·exact hkh q
  ·have:=hb3.lt;omega
 have hug:∀ x,u.ownBlock=some x->gv.ownBlock≠some x:=fun x hx e=>by
  rcases AI x hx with q | q
  ·exact (h.ga x e).1 q
  ·have:=hlt h.got x e;omega
 have hu9:ez w9 B u (jS H c):=((hu.mod iO (fun x hx e=>by simp only [eA] at e;rw [e] at hx;exact Wy hx)).mod oT (fun _ _=>id)).mod nn (fun x hx e=>hug x hx e);have hw9:ez w9 B iN K:=((((h.ky.w.mod dy (fun _ _=>id)).mod fs (fun x hx e=>h.ky.ne x e hx)).mod iO (fun x hx e=>by simp only [eA] at e;rw [e] at hx;exact Ab hx)).mod oT (fun _ _=>id)).mod nn (fun x hx e=>(h.ga x e).2 hx);have vN:dg w9 kb [u,iN] 168:=((nQ.set 0 u).mod oT id).mod nn hkg;refine ⟨yCw hc h.fold (by unfold zT;simp [hf]),⟨vN,hu9,hw9,fun x hx e=>?_⟩,hg',EU h.ZA c,fun x hx=>⟨fun e=>?_,fun e=>?_⟩,?_,h.wa,fun x hx=>?_,by have:=h.hl;have:=Lu H c;omega,by have:=h.kl;omega,by have:=h.gl;simp;omega,?_⟩
 ·rcases AI x hx with q | q
  ·exact h.ky.ne x q e
  ·have:=hlt h.ky.w x e;omega
 ·rcases hgb x hx with q | q
  ·exact hug x e q
  ·have h1:=(mT hu e).2.1;omega
 ·rcases hgb x hx with q | q
  ·exact (h.ga x q).2 e
  ·have:=hlt h.ky.w x e;omega
 ·rcases hat with e | e
  ·rcases h.ha with q | q
   ·exact .inl (e.trans q)
   ·exact .inr (fun x hx=>q x (by rw [<-e];exact hx))
  ·exact .inr (fun x hx=>by have:=e x hx;omega)
 ·rcases hgb x hx with q | q
  ·exact h.gn x q
  ·omega
 ·have a1:Mod (fun x=>hv'.ownBlock=some x\/x=kb\/gv.ownBlock=some x) w3 w9:=((fs.mono (fun _ _ e=>.inl e)).trans (iO.mono (fun _ _ e=>.inr (.inl e)))).trans ((oT.mono (fun _ _ e=>e.elim)).trans (nn.mono (fun _ _ e=>.inr (.inr e))));refine (h.md.trans (dy.mono (fun _ _ e=>e.elim))).trans' a1 (fun x hx e=>?_);rcases e with e | e | e
  ·rcases h.ha with q | q
   ·exact .inr (by rw [<-q];exact e)
   ·have:=q x e;omega
  ·exact .inl e
  ·have:=h.gn x e;omega
def Pc(w:World)(B kb:Nat)(hv:Value)(held waits:List de)(e:Ending)(w':World):Prop:=
 ∃ gv hv' iN,e=.returned gv/\zO w w' B kb hv held waits waits.length gv hv' iN (jO held [] waits).1 (jO held [] waits).2.1 (jO held [] waits).2.2
theorem yRq(B kb:Nat)(hv wv:Value)(held waits:List de)(w:World)(hk:JN w B kb hv wv held waits)(heh:kZ held)(h1:held.length<=400)(h2:waits.length<=400)(hB:B<=w.heap.size) :
  Calls Tryz.prog 143 #[.pointer (some ⟨kb,0,none⟩)] w (Pc w B kb hv held waits):=by
 obtain ⟨i0,hi,hz0,hz1,hz2⟩:=info_parts Tryz.nK;obtain ⟨wa,ft,iY⟩:=eu hk.w;subst iY;have hkh:=xR hk.blk hk.h;have Ab:=xR hk.blk hk.w;have c1:=hk.blk.cell 1 rfl;have f1:=hk.blk.frozen 1;have hkl:=hk.blk.lt;obtain ⟨w1,hw1⟩:∃ q,q=w.setCell ⟨kb,1,none⟩ (.slice none 0 0):=⟨_,rfl⟩;have dh:Mod (eA kb) w w1:=by rw [hw1];exact Mod.dt kb 1 _
 have HQV:Hid (ez w1 B (.slice wa waits.length ft) waits):=hk.w.mod dh (fun x hx e=>by simp only [eA] at e;rw [e] at hx;exact Ab hx);have QP:Hid (zO w w1 B kb hv held waits 0 (.slice none 0 0) hv (.slice none 0 0) held [] []):=by
  refine ⟨rfl,⟨?_,hk.h.mod dh (fun x hx e=>by simp only [eA] at e;rw [e] at hx;exact hkh hx),World.ownsRow_nil _ _ _ _,fun x _=>by simp [Value.ownBlock]⟩,World.ownsRow_nil _ _ _ _,heh,fun x hx=>by simp [Value.ownBlock] at hx,.inl rfl,fun x hx=>by simp [Value.ownBlock] at hx,fun x hx=>by simp [Value.ownBlock] at hx,by omega,by simp,by simp,dh.mono (fun _ _ e=>.inl e)⟩;have:=hk.blk.set 1 (.slice none 0 0);rw [<-hw1] at this;exact this
 have HQB:Hid (∀ x,(Value.slice wa waits.length ft).ownBlock=some x->x<w.heap.size/\x≠kb/\hv.ownBlock≠some x):=fun x hx=>⟨(mT hk.w hx).2.1,fun e=>Ab (by rw [<-e];exact hx),fun e=>hk.ne x e hx⟩;have xh:=dh.size;have HKW:Hid (ez w B (.slice wa waits.length ft) waits):=hk.w;clear hk dh;go_enter Tryz.func143,Tryz.ntmps143;go_upto_region 4 with fail;rw [<-hw1];clear hw1 c1 f1;go_wp2_with fail;go_loopw [3,16] (fun g0 i wr=>∃ (k:Nat) (hv' iN:Value) (H K G:List de),k<=waits.length/\i=.int .i64 k/\zO w wr B kb hv held waits k g0 hv' iN H K G) (fun _ i _=>waits.length - (intOf i).toNat)
 case atStart=>exact ⟨0,_,_,_,_,_,aT _,rfl,QP.out⟩
 case round=>
  obtain ⟨k,hv',iN,H,K,G,hkw',rfl,hI⟩:=hrel;clear QP;have hHl:=hI.hl;have LC:=hI.kl;have hGl:=hI.gl;have SA:=hI.md.size;by_cases hlt:k<waits.length
  ·obtain ⟨c,hc⟩:∃ c,waits[k]?=some c:=⟨_,aA hlt⟩;have Nt:ez wr B (.slice wa waits.length ft) waits:=HKW.out.mod hI.md (fun x hx e=>e.elim (HQB.out x hx).2.1 (HQB.out x hx).2.2);obtain ⟨qb,qoff,rfl,_,q0,q1⟩:=(Nt.mB (aF _)).at hc;obtain ⟨w3,hw3⟩:∃ q,q=wr.alloc (.cells #[.int .i64 c.tx,.int .i64 c.mode] 170):=⟨_,rfl⟩;have dy:Mod dZ wr w3:=by rw [hw3];exact (Mod.refl _ wr).alloc _
   have hb3:dg w3 wr.heap.size (fS c) 170:=by rw [hw3];exact dg.new wr (fS c) 170
   obtain ⟨ha,hcap,mi⟩:=eu hI.ky.h;obtain ⟨ka,zy,iY⟩:=eu hI.ky.w;obtain ⟨ga,mH,DZ⟩:=eu hI.got;subst mi;subst iY;subst DZ;have kI:=dV (yIc w3.heap.size kb _ _ H K c w3 (hI.ky.blk.mod dy id) ((hI.ky.h.mod dy (fun _ _=>id)).mB (aF _)) ((hI.ky.w.mod dy (fun _ _=>id)).mB (aF _)) (by omega) (by omega));have HI:=dV hI;have HC:=dV hc;have iI:=dV dy;have qO:=dV hb3;have x0:=hb3.cell 0 rfl;have x1:=hb3.cell 1 rfl;have SC:=hb3.lt;have jd:(k:Int)<(waits.length:Int):=by omega
   have lJ:(0:Int)<=(k:Int):=by omega
   clear Nt hI hc dy hb3;go_upto_region 7 with fail;rw [<-hw3];clear hw3 q0 q1;go_wp2_with fail;refine kI.out.mono ?_;rintro e w4 ⟨rfl,gR⟩;have hb4:=qO.out.mod gR id;have y0:=hb4.cell 0 rfl;have y1:=hb4.cell 1 rfl;have Wf:=hb4.lt;have DS:Mod dZ wr w4:=iI.out.trans gR;have xr:=HI.out.ky.blk.mod DS id;have k0:=xr.cell 0 rfl;have k1:=xr.cell 1 rfl;have kf0:=xr.frozen 0;have kf1:=xr.frozen 1;have hkz:=xr.lt;have BK:=dV DS;have hz34:=DS.size;have QM:Hid ((Value.slice ka K.length zy).ownBlock≠some kb):=xR HI.out.ky.blk HI.out.ky.w;have QN:Hid ((Value.slice ha H.length hcap).ownBlock≠some kb):=xR HI.out.ky.blk HI.out.ky.h;have Zv:Hid ((Value.slice ga G.length mH).ownBlock≠some kb):=xR HI.out.ky.blk HI.out.got;clear gR hb4 xr DS x0 x1 kI
   cases gI:pc H K c with
   | false=>
    have fY:Hid (ez w4 B (.slice ka K.length zy) K):=HI.out.ky.w.mod BK.out (fun _ _=>id);have iJ:K.length+1<=maxLen:=by unfold maxLen;omega
    have iK:(K.length+1)*16<=140737488355328:=by omega
    have hBz:B<=w4.heap.size:=by omega
    go_upto_region 8 with fail
    go_region_law
     ((first
      | (refine step_append_lies _ (by rfl) _ _ _ (by rfl) B 170 i0 _ 2 16 Tryz.underlying166 hi hz0 hz1 hz2 rfl (by omega) _ _ _ (by rfl) ((World.ownsRow.drew fY.out).alloc _) ⟨w4.heap.size,0,none⟩ 1 1 (fS c) (by rfl) (by rfl) (World.news_of_block (heap_alloc_new w4.drew _)) (zSe c) (by omega) iJ iK (by simp;omega) _ rfl ?_;intro g6 lT w6 iC hgrow hat DV;have mF:Mod (fun k=>(Value.slice ka K.length zy).ownBlock=some k) w4 w6:=(((Mod.refl _ w4).drew).alloc _).grown hgrow (fun x hx _=>hx);have d6:=mF.cell k1 QM.out;have f6:=(mF.frozen (p:=⟨kb,1,none⟩) hkz QM.out).trans kf1)
      | fail))
    all_goals
     have hloc:(Value.slice (some ⟨g6,0,none⟩) (K.length+1) lT).ownBlock=(Value.slice ka K.length zy).ownBlock\/∀ x,(Value.slice (some ⟨g6,0,none⟩) (K.length+1) lT).ownBlock=some x->w4.heap.size<=x:=by
      rcases hat with e | e
      ·exact .inl (by rw [e];rfl)
      ·exact .inr (fun x hx=>by simp [Value.ownBlock] at hx;simp at e;omega)
     have gN:=dV (HI.out.wait HC.out gI BK.out SA (ez.snoc (w:=w4) rfl iC) mF hloc);clear iC hgrow hat hloc mF;go_wp2_with fail;go_roundw
     case rel=>exact ⟨k+1,_,_,_,_,_,by omega,by go_num,gN.out⟩
     case measure=>simp [intOf];omega
   | true=>
    have BB:=dV (yGx B (.slice ha H.length hcap) H c w4.drew ((HI.out.ky.h.mod BK.out (fun _ _=>id)).mod ((Mod.refl dZ w4).drew) (fun _ _=>id)) HI.out.ZA (by omega) (by show B<=w4.heap.size;omega));go_upto_region 9 with fail;go_cut [] (fun wc=>∃ w6 u,ez w6 B u (jS H c)/\Mod (fun x=>(Value.slice ha H.length hcap).ownBlock=some x) w4 w6/\(u.ownBlock=(Value.slice ha H.length hcap).ownBlock\/∀ x,u.ownBlock=some x->w4.heap.size<=x)/\wc=w6.setCell ⟨kb,0,none⟩ u)
    case first=>
     go_region_with (first
      | (go_at_call 112;refine BB.out.mono ?_;rintro e w6 ⟨u6,rfl,Bw,fs,tR⟩;have mF:Mod (fun x=>(Value.slice ha H.length hcap).ownBlock=some x) w4 w6:=((Mod.refl _ w4).drew).trans fs;have d6:=mF.cell k0 QN.out;have f6:=(mF.frozen (p:=⟨kb,0,none⟩) hkz QN.out).trans kf0;obtain ⟨Vq,Vp,rfl⟩:=eu Bw)
      | fail)
     all_goals
      have ZP:=dV Bw;have HA6:=dV tR;have yR:=dV mF;clear Bw tR mF fs;go_wp2_with fail;go_meet
      case rel=>exact ⟨w6,_,ZP.out,yR.out,HA6.out,rfl⟩
    case rest=>
     obtain ⟨w6,u,Bw,mF,tR,hwc⟩:=hcut;have fj:Mod (eA kb) w6 wc:=by rw [hwc];exact Mod.dt kb 0 u
     have uQ:ez wc B (.slice ga G.length mH) G:=((HI.out.got.mod BK.out (fun _ _=>id)).mod mF (fun x hx e=>(HI.out.ga x hx).1 e)).mod fj (fun x hx e=>by simp only [eA] at e;rw [e] at hx;exact Zv.out hx);have fY:=dV uQ;have z46:=mF.size;have z67:=fj.size;have hcn:¬ (Value.slice ha H.length hcap).ownBlock=some wr.heap.size:=fun e=>by have:=(mT HI.out.ky.h e).2.1;omega
     have hkr:wr.heap.size≠kb:=by have:=HI.out.ky.blk.lt;omega
     have t0:=(fj.cell (mF.cell y0 hcn) hkr);have t1:=(fj.cell (mF.cell y1 hcn) hkr);have hzt:wr.heap.size<wc.heap.size:=by omega
     have iJ:G.length+1<=maxLen:=by unfold maxLen;omega
     have iK:(G.length+1)*16<=140737488355328:=by omega
     have hBz:B<=wc.heap.size:=by omega
     have ZP:=dV Bw;have HA6:=dV tR;have yR:=dV mF;have HWC:=dV hwc;clear Bw mF tR hwc uQ k0 k1 kf0 kf1 y0 y1 BB fj;go_wp2_with (first
      | (at_builtin;refine wpList_append_own_at _ rfl (.tmp 43) (.tmp 45) 166 rfl B 170 i0 _ 2 16 Tryz.underlying166 hi hz0 hz1 hz2 rfl (by decide) _ _ _ rfl (fY.out.alloc _) ⟨wc.heap.size,0,none⟩ 1 1 (fS c) rfl rfl (World.news_of_block (heap_alloc_new wc _)) (zSe c) iJ iK (by simp;omega) ?_)
      | fail)
     intro v9 w9 mV lN _ vO;have oT:Mod dZ wc (wc.alloc (.cells #[.int .i64 c.tx,.int .i64 c.mode] 170)):=(Mod.refl _ wc).alloc _;have nn:Mod (fun x=>(Value.slice ga G.length mH).ownBlock=some x) (wc.alloc (.cells #[.int .i64 c.tx,.int .i64 c.mode] 170)) w9:=(Mod.refl _ _).grown lN (fun x hx _=>hx);have gN:Hid (zO w w9 B kb hv held waits (k+1) v9 u (.slice ka K.length zy) (jS H c) K (G++[c])):=HI.out.gets HC.out gI BK.out SA ZP.out yR.out HA6.out (by rw [<-HWC.out];exact oT) (ez.snoc (w:=wc) rfl mV) nn (vO.imp (fun e=>e) (fun e x hx=>by rw [e] at hx;simp at hx;simp;omega));obtain ⟨a9,PX,Wv⟩:=eu mV;subst Wv;clear mV lN vO oT nn;go_wp2_with fail;go_roundw
     case rel=>exact ⟨k+1,_,_,_,_,_,by omega,by go_num,gN.out⟩
     case measure=>simp [intOf];omega
  ·obtain rfl:k=waits.length:=by omega
   have hfo:=hI.fold;rw [bJ,Ty] at hfo;simp only [aY,Prod.mk.injEq] at hfo;obtain ⟨e1,e2,e3⟩:=hfo;rw [<-e1,<-e2,<-e3] at hI;obtain ⟨ga,mH,DZ⟩:=eu hI.got;subst DZ;have HI:=dV hI;clear hI e1 e2 e3;go_wp2_with fail;go_ret;exact ⟨_,_,_,rfl,HI.out⟩
def gA(k:ByteArray):Prop:=k.size<=maxLen
def qv:Value->Option (DataW Unit)
 | .slice none n c=>if n=0/\c=0 then some .nil else none
 | .slice (some a) n c=>if a.off=0/\a.spot=none then some (.agg [.lit (.int .i64 a.block),.lit (.int .i64 n),.lit (.int .i64 c)]) else none
 | _=>none
def rE(v:Value):DataW Unit:=(qv v).getD .nil
def rM(v:Value):Prop:=v=.slice none 0 0\/∃ g n c,v=.slice (some ⟨g,0,none⟩) n c
theorem VZ{v:Value}(h:rM v):qv v=some (rE v):=by
 rcases h with rfl | ⟨g,n,c,rfl⟩ <;> simp [qv,rE]
theorem yHy{v:Value}{y:DataW Unit}(h:qv v=some y):rM v/\y=rE v:=by
 have hh:rM v:=by
  unfold qv at h;split at h
  ·rename_i n c;split at h
   ·rename_i e;obtain ⟨rfl,rfl⟩:=e;exact .inl rfl
   ·cases h
  ·rename_i a n c;split at h
   ·rename_i e;obtain ⟨b,o,s⟩:=a;simp at e;obtain ⟨rfl,rfl⟩:=e;exact .inr ⟨b,n,c,rfl⟩
   ·cases h
  ·cases h
 refine ⟨hh,?_⟩;rw [VZ hh] at h
 cases h
 rfl
theorem yIe{v u:Value}(hv:rM v)(hu:rM u)(h:rE v=rE u):v=u:=by
 rcases hv with rfl | ⟨g,n,c,rfl⟩ <;> rcases hu with rfl | ⟨g',n',c',rfl⟩
 ·rfl
 ·simp [rE,qv] at h
 ·simp [rE,qv] at h
 ·simp [rE,qv] at h;obtain ⟨h1,h2,h3⟩:=h;have:g=g':=by omega
  have:n=n':=by omega
  have:c=c':=by omega
  subst_vars;rfl
theorem Lw{w:World}{B:Nat}{e:TypeId}{sz:Nat}{v:Value}{n:Nat}{xs:List Value}(h:w.ownsRow B e sz v n xs):rM v:=by
 rcases h.2 with ⟨rfl,_⟩ | ⟨g,cap,cur,rfl,_⟩
 ·exact .inl rfl
 ·exact .inr ⟨g,n,cap,rfl⟩
def rf:Value->Option (DataW Unit × List MemPlace)
 | .agg xs=>match xs.toList with
  | [h,v]=>match qv h,qv v with
   | some a,some b=>some (.agg [a,b],[])
   | _,_=>none
  | _=>none
 | _=>none
def lS(h v:Value):DataW Unit:=.agg [rE h,rE v]
def Cc:DataW Unit:=.agg [.nil,.nil]
theorem yIg{h v:Value}(hh:rM h)(hv:rM v):rf (.agg #[h,v])=some (lS h v,[]):=by
 simp [rf,VZ hh,VZ hv,lS]
theorem yDe{x:Value}{y:DataW Unit × List MemPlace}(h:rf x=some y):∃ a b,x=.agg #[a,b]/\rM a/\rM b/\y.1=lS a b:=by
 unfold rf at h;split at h
 ·rename_i xs;split at h
  ·rename_i a b e;split at h
   ·rename_i p q ha hb;obtain ⟨h1,rfl⟩:=yHy ha;obtain ⟨h2,rfl⟩:=yHy hb
    cases h
    refine ⟨a,b,?_,h1,h2,rfl⟩;have:xs=#[a,b]:=by apply Array.ext';simpa using e
    rw [this]
   ·cases h
  ·cases h
 ·cases h
theorem yIf{h v h' v':Value}(a:rM h)(b:rM v)(a':rM h')(b':rM v')(e:lS h v=lS h' v'):h=h'/\v=v':=by
 simp [lS] at e;exact ⟨yIe a a' e.1,yIe b b' e.2⟩
theorem RN{a b:ByteArray}(h:a.data.toList=b.data.toList):a=b:=by
 cases a;cases b;simp at h;simp;exact h
def gQ(k:ByteArray):Lit:=.string k.data.toList
theorem TL{a b:ByteArray}(h:gQ a=gQ b):a=b:=RN (by simpa [gQ] using h)
theorem Qu(k:ByteArray):WideAt.IsKeyLit (gQ k):=by simp [WideAt.IsKeyLit,gQ]
structure iP where
 b:Nat
 pre:List Value
 post:List Value
 t:TypeId
 m:Option Nat
 n:Nat
 hd:ByteArray->Bool->Value
def iP.own(q:iP)(x:Nat):Prop:=q.m=some x\/∃ k i,gA k/\(q.hd k i).ownBlock=some x
def ec.list(k:ec)(i:Bool):List de:=if i then k.held else k.waits
def qK(w:World)(B:Nat)(m:Option Nat)(n:Nat)(hd:ByteArray->Bool->Value)(s:fy):Prop:=match m with
 | none=>∀ k,gA k->(∀ i,hd k i=.slice none 0 0)/\(s k).bare
 | some g=>B<=g/\∃ D,w.ownsMap Tryz.prog 9 rf g n D/\∀ k,gA k->D.atKey (gQ k) Cc=lS (hd k true) (hd k false)/\(Maps.has D (gQ k)=true↔¬ (s k).bare)
structure kH(w:World)(B N:Nat)(q:iP)(s:fy)(no:ByteArray->Prop):Prop where
 blk:dg w q.b (q.pre++.map q.m :: q.post) q.t
 bt:q.t≠170
 map:qK w B q.m q.n q.hd s
 hdr:∀ k i,gA k->rM (q.hd k i)
 rows:∀ k i,gA k->¬ no k->ez w B (q.hd k i) ((s k).list i)
 apart:∀ k k' i i' x,gA k->gA k'->(q.hd k i).ownBlock=some x->(q.hd k' i').ownBlock=some x->k=k'/\i=i'
 ok:∀ k,gA k->mu (s k)
 few:∀ k,gA k->(s k).held.length+(s k).waits.length<=N
def NG(_:ByteArray):Prop:=False
abbrev oZ(w:World)(B N:Nat)(q:iP)(s:fy):Prop:=kH w B N q s NG
theorem qK.mod{G:Nat->Prop}{w w':World}{B:Nat}{m:Option Nat}{n:Nat}{hd:ByteArray->Bool->Value}{s:fy}(h:qK w B m n hd s)(hm:Mod G w w')(hG:∀ x,m=some x->¬ G x):qK w' B m n hd s:=by
 cases m with
 | none=>exact h
 | some g=>
  obtain ⟨h0,D,h1,h2⟩:=h;have hlt:=h1.lt;obtain ⟨es,clock,hb,r⟩:=h1;exact ⟨h0,D,⟨es,clock,(hm.block g hlt (hG g rfl)).trans hb,r⟩,h2⟩
theorem kH.mod{G:Nat->Prop}{w w':World}{B N:Nat}{q:iP}{s:fy}{no:ByteArray->Prop}(h:kH w B N q s no)(hm:Mod G w w')(hb:¬ G q.b)(hG:∀ x,q.own x->¬ G x):kH w' B N q s no:=
 ⟨h.blk.mod hm hb,h.bt,h.map.mod hm (fun x hx=>hG x (.inl hx)),h.hdr,fun k i hk hn=>(h.rows k i hk hn).mod hm (fun x hx=>hG x (.inr ⟨k,i,hk,hx⟩)),h.apart,h.ok,h.few⟩
theorem kH.old{w:World}{B N:Nat}{q:iP}{s:fy}{no:ByteArray->Prop}(h:kH w B N q s no){k:ByteArray}{i:Bool}{x:Nat}(hk:gA k)(hno:¬ no k)(hx:(q.hd k i).ownBlock=some x):B<=x/\x<w.heap.size/\∃ cur,w.heap[x]?=some (.cells cur 170 (0,0)):=mT (h.rows k i hk hno) hx
theorem kH.lt{w:World}{B N:Nat}{q:iP}{s:fy}(h:oZ w B N q s){x:Nat}(hx:q.own x):B<=x/\x<w.heap.size:=by
 rcases hx with hx | ⟨k,i,hk,hx⟩
 ·have:=h.map;rw [hx] at this;obtain ⟨h0,D,h1,_⟩:=this;exact ⟨h0,h1.lt⟩
 ·have:=h.old hk id hx;exact ⟨this.1,this.2.1⟩
theorem kH.lH{w:World}{B N:Nat}{q:iP}{s:fy}{no:ByteArray->Prop}(h:kH w B N q s no){k:ByteArray}{i:Bool}(hk:gA k)(hno:¬ no k){x:Nat}(hx:(q.hd k i).ownBlock=some x):x≠q.b/\q.m≠some x:=by
 obtain ⟨_,_,cur,hc⟩:=h.old hk hno hx;refine ⟨fun e=>?_,fun e=>?_⟩
 ·subst e;have:=h.blk;unfold dg at this;rw [hc] at this;simp at this;exact h.bt this.2.symm
 ·have hm:=h.map;rw [e] at hm;obtain ⟨_,D,⟨es,clock,hb,_⟩,_⟩:=hm;rw [hc] at hb
  cases hb
theorem kH.zu{w:World}{B N:Nat}{q:iP}{s:fy}{no:ByteArray->Prop}(h:kH w B N q s no):q.m≠some q.b:=fun e=>by
 have hm:=h.map;rw [e] at hm;obtain ⟨_,D,⟨es,clock,hb,_⟩,_⟩:=hm;have:=h.blk;unfold dg at this;rw [this] at hb
 cases hb
theorem kH.cell{w:World}{B N:Nat}{q:iP}{s:fy}{no:ByteArray->Prop}(h:kH w B N q s no):w.cell? ⟨q.b,q.pre.length,none⟩=some (.map q.m):=h.blk.cell _ (by simp)
theorem KP:Keyed Tryz.prog 9:=string_keyed Tryz.underlying9
theorem yQn(w:World):(zeroValue 168).run Tryz.prog w=.ok (.agg #[.slice none 0 0,.slice none 0 0]) w:=by kernel_rfl
theorem ySh(k:ByteArray)(w:World):(Instr.lookup 79 (.map none) (.string k) false).run Tryz.prog w=.ok (.agg #[.slice none 0 0,.slice none 0 0]) w:=by kernel_rfl
theorem kH.look{w:World}{B N:Nat}{q:iP}{s:fy}{no:ByteArray->Prop}(h:kH w B N q s no){k:ByteArray}(hk:gA k):(Instr.lookup 79 (.map q.m) (.string k) false).run Tryz.prog w=.ok (.agg #[q.hd k true,q.hd k false]) w:=by
 have hm:=h.map
 cases hq:q.m with
 | none=>
  rw [hq] at hm;rw [(hm k hk).1 true,(hm k hk).1 false];exact ySh k w
 | some g=>
  rw [hq] at hm;obtain ⟨_,D,h1,h2⟩:=hm;obtain ⟨v,ps,hrun,hv⟩:=h1.lookup KP Tryz.underlying79 (yQn w) (zd:=Cc) (zp:=[]) (yIg (.inl rfl) (.inl rfl)) (Go.WideMaps.keyOf_string_mk Tryz.underlying9 hk);obtain ⟨a,b,rfl,e1,e2,e3⟩:=yDe hv;have e4:lS a b=lS (q.hd k true) (q.hd k false):=by rw [<-e3];exact (h2 k hk).1
  obtain ⟨rfl,rfl⟩:=yIf e1 e2 (h.hdr k true hk) (h.hdr k false hk) e4;exact hrun
theorem kH.less{w:World}{B N:Nat}{q:iP}{s:fy}(h:oZ w B N q s)(no:ByteArray->Prop):kH w B N q s no:=
 ⟨h.blk,h.bt,h.map,h.hdr,fun k i hk _=>h.rows k i hk id,h.apart,h.ok,h.few⟩
theorem kH.turn{w w':World}{B N:Nat}{q:iP}{s:fy}{name:ByteArray}{G:Nat->Prop}(h:kH w B N q s (·=name))(hm:Mod G w w')(hb:¬ G q.b)(hmm:∀ x,q.m=some x->¬ G x)(hG:∀ k i x,gA k->k≠name->(q.hd k i).ownBlock=some x->¬ G x):kH w' B N q s (·=name):=
 ⟨h.blk.mod hm hb,h.bt,h.map.mod hm hmm,h.hdr,fun k i hk hno=>(h.rows k i hk hno).mod hm (fun x hx=>hG k i x hk hno hx),h.apart,h.ok,h.few⟩
end Go.Proofs.YtmaiggbnceejiaaGreatDoor
