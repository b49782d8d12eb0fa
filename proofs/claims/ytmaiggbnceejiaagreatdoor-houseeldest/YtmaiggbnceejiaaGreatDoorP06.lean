import Derived.Test.YtmaiggbnceejiaaGreatDoorP05
import Derived.WalkSpells
set_option linter.unusedVariables false
set_option maxRecDepth 100000
set_option maxHeartbeats 16000000
namespace Go.Proofs.YtmaiggbnceejiaaGreatDoor
open Go.RowKit Go.Lib Go.Maps
variable {E:Ext}
def Lw(s:ey)(k:Nat):ey:=⟨s.way.eraseIdx k,s.lost,s.down⟩
theorem yPn{α:Type}{l:List α}{k:Nat}{x:α}(h:l[k]?=some x):∃ a b,l=a++x :: b/\a.length=k/\l.eraseIdx k=a++b:=by
 have hk:k<l.length:=(aB.1 h).1;refine ⟨l.take k,l.drop (k+1),?_,by rw [aZ];omega,by rw [List.eraseIdx_eq_take_drop_succ]⟩;rw [aA hk] at h;simp at h;rw [<-h,<-bj hk,ai]
theorem fY.EE{w w6:World}{L:Lo}{g:Nat}{wv v6:Value}{mr:Option Nat}{s:ey}{ms:List dp}(h:fY E w L g wv mr s)(fq:Mod (fun k=>wv.ownBlock=some k) w w6)(hR:eX w6 L v6 ms)(hv:v6.ownBlock=wv.ownBlock)(hf:ms.length<=200) :
  fY E (w6.setCell ⟨g,2,none⟩ v6) L g v6 mr ⟨ms,s.lost,s.down⟩/\Mod (mo g wv mr) w (w6.setCell ⟨g,2,none⟩ v6):=by
 obtain ⟨a1,a2,a3⟩:=h.apart;have nO:dh w6 g [E.a0,E.a1,wv,.int .i64 s.lost,.map mr,E.a5,E.a6] 84:=h.blk.mod fq a1;have so:=nO;simp only [dh] at so;have iV:Mod (eF g) w6 (w6.setCell ⟨g,2,none⟩ v6):=Mod.dq g 2 _;have GZ:Qm w6 L (eF g):=fun k _ e=>by
  simp only [eF] at e;subst e;rintro (e | ⟨⟨cur,fr,e⟩,_⟩)
  ·have:=h.low;omega
  ·rw [so] at e;simp at e
 refine ⟨⟨nO.set 2 _,h.low,hR.mod iV GZ (fun k hk e=>a1 (by rw [<-hv,hk,e])),(h.dn.mod fq (fun k hk e=>a3 k e hk)).mod iV (fun k hk e=>a2 (by rw [hk,e])),hf,h.lo,fun k hk=>aG (h.xb k hk) (aM fq.size iV.size)⟩,?_⟩;exact (fq.mono (fun i _ e=>.inr (.inl e))).setCell (p:=⟨g,2,none⟩) (fun _=>.inl rfl) _
theorem yGj(L:Lo)(g:Nat)(wv:Value)(mr:Option Nat)(s:ey)(k:Nat)(m:dp)(w:World)(h:fY E w L g wv mr s)(hm:s.way[k]?=some m) :
  Calls Tryz.prog 54 #[.pointer (some ⟨g,2,none⟩),.int .i64 k] w fun e w'=>∃ iJ u,e=.returned (.tuple #[uW m u,.nilIface])/\fY E w' L g iJ mr (Lw s k)/\iE w' L u m.cmd.writes/\iJ.ownBlock=wv.ownBlock/\Mod (mo g wv mr) w w':=by
 have hk:k<s.way.length:=(aB.1 hm).1;have fW:=h.few;have HH:Hid (Calls Tryz.prog 94 #[.pointer (some ⟨g,2,none⟩),.int .i64 k] (w.alloc (.cells #[.int .i64 0,.int .i64 0,.int .i64 0,.int .i64 0,.int .i64 0,.int .i64 0,.int .i64 0,.int .i64 0,.slice none 0 0] 112)) fun e w'=>e=.returned (.bool (hasB s k))/\w'=(w.alloc (.cells #[.int .i64 0,.int .i64 0,.int .i64 0,.int .i64 0,.int .i64 0,.int .i64 0,.int .i64 0,.int .i64 0,.slice none 0 0] 112))):=LK L g wv mr s k _ (h.mod ((Mod.refl dZ w).alloc _) (Qm.none _ _) (fun _ _=>id));have No:hasB s k=true:=by simp [hasB];omega
 rw [No] at HH;obtain ⟨w0,hw0⟩:∃ q,q=w.alloc (.cells #[.int .i64 0,.int .i64 0,.int .i64 0,.int .i64 0,.int .i64 0,.int .i64 0,.int .i64 0,.int .i64 0,.slice none 0 0] 112):=⟨_,rfl⟩;have hm0:Mod dZ w w0:=by rw [hw0];exact (Mod.refl _ w).alloc _
 have hZ0:dh w0 w.heap.size [.int .i64 0,.int .i64 0,.int .i64 0,.int .i64 0,.int .i64 0,.int .i64 0,.int .i64 0,.int .i64 0,.slice none 0 0] 112:=by rw [hw0];exact dh.new w _ _
 have h0:=h.mod hm0 (Qm.none _ _) (fun _ _=>id);rw [<-hw0] at HH;go_enter Tryz.func54,Tryz.ntmps54;go_wp2_with fail;rw [<-hw0];clear hw0 No;refine HH.out.mono ?_;rintro e w1 ⟨rfl,hw1⟩;subst hw1;clear HH;obtain ⟨b,xX,u,hv,hcb,hcm,hu,jB,q0,q1,q2,q3,q4,q5,q6,q7,q8⟩:=h0.row.at hm;subst hv;have c0:=h0.blk.cell 2 rfl;obtain ⟨ua,dj,rfl⟩:∃ ua dj,u=.slice ua m.cmd.writes.length dj:=by obtain ⟨ua,dj,h,_⟩:=hu;exact ⟨ua,dj,h⟩
 obtain ⟨m1,m2,hsp,mw,her⟩:=yPn hm;have OM:eX w1 L (.slice (some ⟨b,0,none⟩) s.way.length xX) (m1++m :: m2):=by rw [<-hsp];exact h0.row
 have ur:=h0.blk.lt;obtain ⟨w2,hw2⟩:∃ q,q=w1.alloc (.cells #[.int .i64 m.kind,.int .i64 m.eI,.int .i64 m.to,.int .i64 m.db,.int .i64 m.n,.int .i64 m.cmd.kind,.int .i64 m.cmd.tx,.int .i64 m.cmd.time,.slice ua m.cmd.writes.length dj] 112):=⟨_,rfl⟩;have hm2:Mod dZ w1 w2:=by rw [hw2];exact (Mod.refl _ w1).alloc _
 have gm:dh w2 w1.heap.size (iW m (.slice ua m.cmd.writes.length dj)) 112:=by rw [hw2];exact dh.new w1 _ _
 have h2:=h0.mod hm2 (Qm.none _ _) (fun _ _=>id);have c2:=h2.blk.cell 2 rfl;have f2:=h2.blk.frozen 2;have hD:=yJv L m1 m2 m _ w2 (OM.mod hm2 (Qm.none _ _) (fun _ _=>id)) (by rw [<-hsp];exact fW);rw [mw] at hD;have HD:=eC hD;have Zx:=eC her;clear hD her hsp OM;go_wp2_with fail;rw [<-hw2];refine HD.out.mono ?_;rintro e w3 ⟨v3,rfl,Ha,hv3,dz⟩;rw [<-Zx.out] at Ha;have DF:=h2.apart;have R:=h2.EE dz Ha hv3 (by rw [List.length_eraseIdx];split <;> omega);have c3:=dz.cell c2 DF.1;have f3:=(dz.frozen (p:=⟨g,2,none⟩) h2.blk.lt DF.1).trans f2;have hu3:=((hu.mod hm2 (Qm.none _ _)).mod dz (Qm.mc h2 (fun k _ e=>.inr (.inl e))));have hbl:b<w.heap.size:=(h.lt (.inr (.inl rfl))).2.1;have hz1:=hm0.size;have hBr:=gm.mod dz (fun e=>by simp [Value.ownBlock] at e;omega);have hZr:=(hZ0.mod hm2 id).mod dz (fun e=>by simp [Value.ownBlock] at e;omega);have hgw:g<w.heap.size:=h.blk.lt;have Hi:=hBr.mod (Mod.dq (w:=w3) g 2 v3) (fun e=>by simp only [eF] at e;omega);have YF:=hZr.mod (Mod.dq (w:=w3) g 2 v3) (fun e=>by simp only [eF] at e;omega);obtain ⟨⟨p0,p1,p2,p3,p4,p5,p6,p7,p8⟩,_⟩:=iH Hi;obtain ⟨⟨z0,z1,z2,z3,z4,z5,z6,z7,z8⟩,⟨y0,y1,y2,y3,y4,y5,y6,y7,y8⟩⟩:=iH YF;obtain ⟨JZ,Dv,GP⟩:=Ha.slice;subst GP;have ZT:=eC R;have HM:=eC ((hm0.trans hm2).mono (G':=mo g (.slice (some ⟨b,0,none⟩) s.way.length xX) mr) (fun _ _ e=>e.elim));have HU3:=eC (hu3.mod (Mod.dq (w:=w3) g 2 (.slice JZ (s.way.eraseIdx k).length Dv)) (fun x hx e=>by
  simp only [eF] at e;subst e;have hb:=h2.blk.mod dz DF.1;simp only [dh] at hb;rintro (e | ⟨⟨cur,fr,e⟩,_⟩)
  ·have:=h.low;omega
  ·rw [hb] at e;simp at e))
 have SW:=eC hv3;have HMR:Hid (∀ k,mr=some k->k<w.heap.size):=fun k hk=>(h.lt (.inr (.inr hk))).2.1;have jy:=h.low;clear R dz hu3 hBr hZr Ha gm hm2 hm0 h2 HD hZ0 h0 hu h q0 q1 q2 q3 q4 q5 q6 q7 q8 c0 c2 f2 DF hv3;go_wp2_with fail;have hq9:Qm (w3.setCell ⟨g,2,none⟩ (.slice JZ (s.way.eraseIdx k).length Dv)) L (eF w.heap.size):=fun x hx e=>by
  simp only [eF] at e;subst e;have hb:=YF;simp only [dh] at hb;rintro (e | ⟨⟨cur,fr,e⟩,_⟩)
  ·omega
  ·rw [hb] at e;simp at e
 refine bodyPost_ret (Ay Tryz.results54 _ ⟨w.heap.size,0,none⟩ rfl rfl (yGr YF _ _ _ _ _ _ _ _ _)) rfl ⟨.slice JZ (s.way.eraseIdx k).length Dv,.slice ua m.cmd.writes.length dj,rfl,?_,?_,SW.out,?_⟩
 ·refine ZT.out.1.mod (Lh _ _ _ _ _ _ _ _ _ _ _) hq9 (fun x hx e=>?_);simp only [eF] at e;rcases hx with hx | hx | hx
  ·omega
  ·rw [SW.out] at hx;simp [Value.ownBlock] at hx;omega
  ·have:=HMR.out x hx;omega
 ·exact HU3.out.mod (Lh _ _ _ _ _ _ _ _ _ _ _) hq9
 ·exact (HM.out.trans ZT.out.2).trans' (Lh _ _ _ _ _ _ _ _ _ _ _) (fun i hi e=>by simp only [eF] at e;omega)
theorem ySy(L:Lo)(g:Nat)(wv:Value)(mr:Option Nat)(s:ey)(k:Int)(w:World)(h:fY E w L g wv mr s)(hk:hasB s k=false) :
  Calls Tryz.prog 54 #[.pointer (some ⟨g,2,none⟩),.int .i64 k] w fun e w'=>e=.returned (.tuple #[uW yKp (.slice none 0 0),.iface 90 (.int .i64 2)])/\Mod dZ w w':=by
 have HH:=eC (LK L g wv mr s k _ (h.mod ((Mod.refl dZ w).alloc (.cells #[.int .i64 0,.int .i64 0,.int .i64 0,.int .i64 0,.int .i64 0,.int .i64 0,.int .i64 0,.int .i64 0,.slice none 0 0] 112)) (Qm.none _ _) (fun _ _=>id)));rw [hk] at HH;clear h hk;go_enter Tryz.func54,Tryz.ntmps54;go_wp2_with fail;refine HH.out.mono ?_;rintro e w1 ⟨rfl,rfl⟩;go_wp2_with fail;refine bodyPost_ret (Ay Tryz.results54 _ ⟨w.heap.size,0,none⟩ rfl rfl (TB (dh.new w _ _))) rfl ⟨rfl,(Mod.refl _ w).alloc _⟩
end Go.Proofs.YtmaiggbnceejiaaGreatDoor
namespace Go.Proofs.YtmaiggbnceejiaaGreatDoor
open Go.RowKit Go.Lib Go.Maps
variable {E:Ext}
def RG(s:ey)(k:Nat):ey:=⟨s.way.eraseIdx k,s.lost+1,s.down⟩
theorem Mod.WA{w w1 w2:World}{g:Nat}{v v':Value}{mr:Option Nat}(h:Mod (mo g v mr) w w1)(hm:v'.ownBlock=v.ownBlock)(k:Mod (mo g v' mr) w1 w2):Mod (mo g v mr) w w2:=h.net (.inl hm) k
theorem yQo(L:Lo)(g:Nat)(wv:Value)(mr:Option Nat)(s:ey)(k:Nat)(m:dp)(w:World)(h:fY E w L g wv mr s)(hm:s.way[k]?=some m)(hlo:s.lost+1<=4611686018427387904) :
  Calls Tryz.prog 57 #[.pointer (some ⟨g,2,none⟩),.int .i64 k] w fun e w'=>∃ iJ,e=.returned .nilIface/\fY E w' L g iJ mr (RG s k)/\iJ.ownBlock=wv.ownBlock/\Mod (mo g wv mr) w w':=by
 have HT:=eC (yGj L g wv mr s k m w h hm);have hl0:=h.lo;clear h;go_enter Tryz.func57,Tryz.ntmps57;go_wp2_with fail;refine HT.out.mono ?_;rintro e w1 ⟨ME,u,rfl,pO,hu1,hv1,di⟩;simp only [uW];obtain ⟨ua,dj,rfl⟩:∃ ua dj,u=.slice ua m.cmd.writes.length dj:=by obtain ⟨ua,dj,h,_⟩:=hu1;exact ⟨ua,dj,h⟩
 have c1:=pO.blk.cell 3 rfl;have ur:=pO.blk.lt;have f1:=pO.blk.frozen 3;have HR:=eC (pO.loses (s.lost+1) (by omega));have HV:=eC hv1;have HM:=eC (Mod.WA di hv1 HR.out.2);simp only [Lw] at c1;clear pO hu1 di HT hv1;go_wp2_with fail;go_ret;exact ⟨ME,rfl,HR.out.1.mod ((Mod.refl dZ _).alloc _) (Qm.none _ _) (fun _ _=>id),HV.out,HM.out.alloc _⟩
theorem yTj(L:Lo)(g:Nat)(wv:Value)(mr:Option Nat)(s:ey)(k:Int)(w:World)(h:fY E w L g wv mr s)(hk:hasB s k=false) :
  Calls Tryz.prog 57 #[.pointer (some ⟨g,2,none⟩),.int .i64 k] w fun e w'=>e=.returned (.iface 90 (.int .i64 2))/\Mod dZ w w':=by
 have HT:=eC (ySy L g wv mr s k w h hk);clear h hk;go_enter Tryz.func57,Tryz.ntmps57;go_wp2_with fail;refine HT.out.mono ?_;rintro e w1 ⟨rfl,di⟩;simp only [uW];go_wp2_with fail;go_ret;exact ⟨rfl,di.alloc _⟩
theorem yPh(L:Lo)(g:Nat)(wv:Value)(mr:Option Nat)(s:ey)(k:Int)(w:World)(h:fY E w L g wv mr s)(hk:hasB s k=false) :
  Calls Tryz.prog 58 #[.pointer (some ⟨g,2,none⟩),.int .i64 k] w fun e w'=>e=.returned (.iface 90 (.int .i64 2))/\Mod dZ w w':=by
 have HT:=eC (LK L g wv mr s k w h);rw [hk] at HT;clear h hk;go_enter Tryz.func58,Tryz.ntmps58;go_wp2_with fail;refine HT.out.mono ?_;rintro e w1 ⟨rfl,rfl⟩;go_wp2_with fail;go_ret;exact ⟨rfl,Mod.refl _ _⟩
theorem yHz(L:Lo)(g:Nat)(wv:Value)(mr:Option Nat)(s:ey)(k:Int)(w:World)(h:fY E w L g wv mr s)(hk:hasB s k=true)(hr:¬ s.way.length<200) :
  Calls Tryz.prog 58 #[.pointer (some ⟨g,2,none⟩),.int .i64 k] w fun e w'=>e=.returned (.iface 90 (.int .i64 4))/\Mod dZ w w':=by
 have HT:=eC (LK L g wv mr s k w h);rw [hk] at HT;have HR:=eC (TJ L g wv mr s w h);rw [aP hr] at HR;clear h hk hr;go_enter Tryz.func58,Tryz.ntmps58;go_wp2_with fail;refine HT.out.mono ?_;rintro e w1 ⟨rfl,hw1⟩;subst hw1;go_wp2_with fail;refine HR.out.mono ?_;rintro e w2 ⟨rfl,hw2⟩;subst hw2;go_wp2_with fail;go_ret;exact ⟨rfl,Mod.refl _ _⟩
theorem yLb(L:Lo)(g:Nat)(wv:Value)(mr:Option Nat)(s:ey)(k:Nat)(m:dp)(w:World)(h:fY E w L g wv mr s)(hm:s.way[k]?=some m)(hr:s.way.length<200)(hlo:s.lost+1<=4611686018427387904) :
  Calls Tryz.prog 58 #[.pointer (some ⟨g,2,none⟩),.int .i64 k] w fun e w'=>∃ iJ,e=.returned .nilIface/\fY E w' L g iJ mr (kF s m)/\iC w wv iJ/\Mod (mo g wv mr) w w':=by
 have hk:k<s.way.length:=(aB.1 hm).1;have HT:=eC (LK L g wv mr s k w h);have No:hasB s k=true:=by simp [hasB];omega
 rw [No] at HT;have HR:=eC (TJ L g wv mr s w h);rw [aQ hr] at HR;clear No;obtain ⟨b,xX,u,hv,hcb,hcm,hu,jB,q0,q1,q2,q3,q4,q5,q6,q7,q8⟩:=h.row.at hm;subst hv;have c0:=h.blk.cell 2 rfl;obtain ⟨ua,dj,rfl⟩:∃ ua dj,u=.slice ua m.cmd.writes.length dj:=by obtain ⟨ua,dj,h,_⟩:=hu;exact ⟨ua,dj,h⟩
 have di:Mod dZ w (w.alloc (.cells #[.int .i64 m.kind,.int .i64 m.eI,.int .i64 m.to,.int .i64 m.db,.int .i64 m.n,.int .i64 m.cmd.kind,.int .i64 m.cmd.tx,.int .i64 m.cmd.time,.slice ua m.cmd.writes.length dj] 112)):=(Mod.refl _ w).alloc _;have fi:=dh.new w (iW m (.slice ua m.cmd.writes.length dj)) 112;have hV1:FX (w.alloc (.cells #[.int .i64 m.kind,.int .i64 m.eI,.int .i64 m.to,.int .i64 m.db,.int .i64 m.n,.int .i64 m.cmd.kind,.int .i64 m.cmd.tx,.int .i64 m.cmd.time,.slice ua m.cmd.writes.length dj] 112)) L (fun x=>x=w.heap.size) (.slice (some ⟨w.heap.size,0,none⟩) 1 1) [m]:=by
  refine ⟨_,_,rfl,aF _,by unfold maxLen;omega,.inr ⟨w.heap.size,0,rfl,rfl,fun i m' hi'=>?_⟩⟩;have e:i=0/\m'=m:=by
   cases i with
   | zero=>simp at hi';exact ⟨rfl,hi'.symm⟩
   | succ i=>simp at hi'
  obtain ⟨rfl,rfl⟩:=e;exact ⟨_,hu.mod di (Qm.none _ _),jB,fun j x hx=>by
   rw [show 0+0*9+j=j by omega];exact fi.cell j hx⟩
 have HS:=eC (yGm L g _ mr s _ _ [m] _ (h.mod di (Qm.none _ _) (fun _ _=>id)) hV1 (fun x hx=>⟨by subst hx;simp,fun e=>by
  have:=(h.lt e).2.1;omega⟩) (by simpa using hlo))
 clear h hV1 fi hu;go_enter Tryz.func58,Tryz.ntmps58;go_wp2_with fail;refine HT.out.mono ?_;rintro e w1 ⟨rfl,hw1⟩;subst hw1;go_wp2_with fail;refine HR.out.mono ?_;rintro e w2 ⟨rfl,hw2⟩;subst hw2;go_wp2_with fail;refine HS.out.mono ?_;rintro e w3 ⟨wv3,rfl,sw,hv3,dz⟩;go_wp2_with fail;go_ret;refine ⟨wv3,rfl,sw,?_,(di.mono (fun _ _ e=>e.elim)).trans dz⟩;rcases hv3 with e | e
 ·exact .inl e
 ·exact .inr (fun x hx=>by have:=e x hx;simp at this;omega)
end Go.Proofs.YtmaiggbnceejiaaGreatDoor
namespace Go.Proofs.YtmaiggbnceejiaaGreatDoor
open Go.RowKit Go.Lib Go.Maps
variable {E:Ext}
structure vX(w:World)(L:Lo)(g q:Nat)(mr:Option Nat)(ds:List Int):Prop where
 box:w.cell? ⟨q,0,none⟩=some (.pointer (some ⟨g,2,none⟩))
 fld:w.cell? ⟨g,4,none⟩=some (.map mr)
 dn:pV w L mr ds
theorem vX.mod{G:Nat->Prop}{w w':World}{L:Lo}{g q:Nat}{mr:Option Nat}{ds:List Int}(h:vX w L g q mr ds)(hm:Mod G w w')(hq:¬ G q)(hg:¬ G g)(hr:∀ k,mr=some k->¬ G k):vX w' L g q mr ds:=
 ⟨hm.cell h.box hq,hm.cell h.fld hg,h.dn.mod hm hr⟩
theorem vX.call{w:World}{L:Lo}{g q:Nat}{mr:Option Nat}{ds:List Int}(h:vX w L g q mr ds)(m:dp)(u:Value)(hi:Ux m) :
  Calls Tryz.prog 131 #[.agg #[.int .i64 m.kind,.int .i64 m.eI,.int .i64 m.to,.int .i64 m.db,.int .i64 m.n,.int .i64 m.cmd.kind,.int .i64 m.cmd.tx,.int .i64 m.cmd.time,u],.pointer (some ⟨q,0,none⟩)] w fun e w'=>e=.returned (.bool (pY ds m))/\Mod dZ w w':=
 zTb g q L m u mr ds w h.box h.fld h.dn hi
def wS(ds:List Int):List dp->Option Nat
 | []=>none
 | m :: ms=>if pY ds m then some 0 else (wS ds ms).map (·+1)
theorem yCr(ds:List Int):∀ (ms:List dp) (k:Nat),(∀ i m,i<k->ms[i]?=some m->pY ds m=false)->∀ m,ms[k]?=some m->pY ds m=true->wS ds ms=some k
 | [],_,_,m,h,_=>by simp at h
 | m' :: ms,0,_,m,h,hs=>by simp at h;subst h;simp [wS,hs]
 | m' :: ms,k+1,hf,m,h,hs=>by
  have h0:=hf 0 m' (by omega) rfl;have:=yCr ds ms k (fun i m hi hm=>hf (i+1) m (by omega) (by simpa using hm)) m (by simpa using h) hs;simp [wS,h0,this]
theorem zUw(ds:List Int):∀ (ms:List dp),(∀ (i:Nat) m,ms[i]?=some m->pY ds m=false)->wS ds ms=none
 | [],_=>rfl
 | m :: ms,h=>by
  have h0:=h 0 m rfl;simp [wS,h0,zUw ds ms (fun i m hm=>h (i+1) m (by simpa using hm))]
def VG(o:Option Nat):Int:=match o with | none=>-1 | some k=>k
theorem yNa(L:Lo)(g q:Nat)(mr:Option Nat)(ds:List Int)(v:Value)(ms:List dp)(w:World)(hR:eX w L v ms)(hA:vX w L g q mr ds)(hf:ms.length<=200) :
  Calls Tryz.prog 164 #[v,.func (.func 131) #[] #[.pointer (some ⟨q,0,none⟩)]] w fun e w'=>e=.returned (.int .i64 (VG (wS ds ms)))/\Mod dZ w w':=by
 obtain ⟨va,CH,hv⟩:=hR.slice;subst hv;go_enter Tryz.func164,Tryz.ntmps164;go_wp2_with fail;go_loopw [8] (fun i wr=>∃ k:Nat,k<=ms.length/\i=.int .i64 k/\(∀ i m,i<k->ms[i]?=some m->pY ds m=false)/\Mod dZ w wr) (fun i _=>ms.length - (intOf i).toNat)
 case atStart=>exact ⟨0,aV _,rfl,fun i m h=>by omega,Mod.refl _ _⟩
 case round=>
  obtain ⟨k,hk,rfl,hno,hM⟩:=hrel;have kv:=eC hno;clear hno;by_cases hlt:k<ms.length
  ·obtain ⟨m,hm⟩:∃ m,ms[k]?=some m:=⟨_,aA hlt⟩;obtain ⟨b,xX,u,hv,_,_,hu,jB,q0,q1,q2,q3,q4,q5,q6,q7,q8⟩:=(hR.mod hM (Qm.none _ _) (fun _ _=>id)).at hm;simp only [Value.slice.injEq] at hv;obtain ⟨rfl,_,rfl⟩:=hv;have HC:=eC ((hA.mod hM id id (fun _ _=>id)).call m u jB.1);have kh:=eC hm;clear hm;go_wp2_with fail;refine HC.out.mono ?_;rintro e w5 ⟨rfl,eu⟩;have wD:=hM.trans eu;clear HC q0 q1 q2 q3 q4 q5 q6 q7 q8
   cases hs:pY ds m with
   | true=>
    have HF:=eC (yCr ds ms k kv.out m kh.out hs);go_wp2_with fail;go_ret;exact ⟨by rw [HF.out];rfl,wD⟩
   | false=>
    go_wp2_with fail;go_roundw
    case rel=>
     refine ⟨k+1,by omega,by go_num,fun i m' hi' hm'=>?_,wD⟩;by_cases hik:i<k
     ·exact kv.out i m' hik hm'
     ·obtain rfl:i=k:=by omega
      rw [kh.out] at hm';cases hm';exact hs
    case measure=>simp [intOf];omega
  ·have HF:=eC (zUw ds ms (fun i m hm=>kv.out i m (by have:=(aB.1 hm).1;omega) hm));go_wp2_with fail;go_ret;exact ⟨by rw [HF.out];rfl,hM⟩
end Go.Proofs.YtmaiggbnceejiaaGreatDoor
namespace Go.Proofs.YtmaiggbnceejiaaGreatDoor
open Go.RowKit Go.Lib Go.Maps
variable {E:Ext}
def TV:Array Value:=#[.int .i64 0,.int .i64 0,.int .i64 0,.int .i64 0,.int .i64 0,.int .i64 0,.int .i64 0,.int .i64 0,.slice none 0 0]
def wO(n:Nat):List Value:=(Builtin.zeroCells TV n).toList
theorem Tx(n:Nat):(wO n).length=n*9:=by rw [wO,cG,size_zeroCells];rfl
theorem yKo(n:Nat):∀ v∈wO n,v.oneCell'=true:=by
 intro v hv;simp only [wO,Builtin.zeroCells,dL,ag] at hv;obtain ⟨i,_,rfl⟩:=hv;have h9:∀ j,j<9->(TV[j]!).oneCell'=true:=by
  intro j hj
  match j,hj with
  | 0,_=>rfl
  | 1,_=>rfl
  | 2,_=>rfl
  | 3,_=>rfl
  | 4,_=>rfl
  | 5,_=>rfl
  | 6,_=>rfl
  | 7,_=>rfl
  | 8,_=>rfl
 exact h9 _ (dF _ (by decide))
theorem yEe(w:World)(ty:TypeId)(b o n c:Nat)(hn:0<n)(hc:∀ j,j<n*9->(w.cell? ⟨b,o+j,none⟩).isSome=true)(hf:∀ j,j<n*9->w.frozen? ⟨b,o+j,none⟩=false) :
  (Builtin.clear_ #[76] ty #[.slice (some ⟨b,o,none⟩) n c]).run Tryz.prog w=.ok (.tuple #[]) (w.setCells b o (wO n)):=by
 have hst:=run_storeCells_cells (P:=Tryz.prog) b o (wO n) 0 w (by simpa [Tx] using hc) (by simpa [Tx] using hf) (yKo n);simp only [bC] at hst;obtain ⟨m,rfl⟩:∃ m,n=m+1:=⟨n - 1,by omega⟩;have hz:=yPb;have e:(Value.agg #[.int .i64 0,.int .i64 0,.int .i64 0,.int .i64 0,.int .i64 0,.int .i64 0,.int .i64 0,.int .i64 0,.slice none 0 0]).cells=TV:=rfl;simp only [wO] at hst ⊢;simp [Builtin.clear_,run_underlying Tryz.underlying76,hz,e,hst]
theorem zVp{w:World}{ops:Array Oper}{rest:List Oper}{o:Oper}{a:Act}{Q:Exit->Act->World->Prop}(hgd:o.guard=none)(s:Operand)
  (ho:o.op=.call { callee:=.builtin .clear,args:=#[s],argTypes:=#[76] }) (b off n c:Nat) (hs:a.eval s=.slice (some ⟨b,off,none⟩) n c) (hn:0<n)
  (hc:∀ j,j<n*9->(w.cell? ⟨b,off+j,none⟩).isSome=true) (hf:∀ j,j<n*9->w.frozen? ⟨b,off+j,none⟩=false)
  (h:wpList Tryz.prog ops Q rest (a.put o.dst (.tuple #[])) (w.setCells b off (wO n))):wpList Tryz.prog ops Q (o :: rest) a w:=by
 refine wpList_plain hgd fun K hK=>?_;have hr:=yEe w o.type b off n c hn hc hf;unfold Oper.wp execOp;simp only [ho,resolve,invoke,builtin,Sem.run_bind,Sem.run_pure,Result.andThen_ok,cI,bh,cR,hs,hr];exact hK _ _ h
def ld(ds:List Int)(ms:List dp):List dp:=ms.filter (fun m=>!pY ds m)
theorem zXb(ds:List Int)(ms:List dp)(m:dp):ld ds (ms++[m])=if pY ds m then ld ds ms else ld ds ms++[m]:=by
 unfold ld;rw [List.filter_append]
 cases h:pY ds m <;> simp [h]
theorem zXn(ds:List Int):∀ ms,wS ds ms=none->ld ds ms=ms
 | [],_=>rfl
 | m :: ms,h=>by
  unfold wS at h;split at h
  ·cases h
  ·rename_i hs;have hs':pY ds m=false:=by simpa using hs
   have:=zXn ds ms (by simpa using h);unfold ld at this ⊢;rw [cJ,aJ (by simp [hs']),this]
theorem zUv(ds:List Int):∀ ms k,wS ds ms=some k->k<ms.length/\ld ds (ms.take (k+1))=ms.take k
 | [],_,h=>by simp [wS] at h
 | m :: ms,k,h=>by
  unfold wS at h;split at h
  ·rename_i hs;simp at h;subst h;refine ⟨by simp,?_⟩;simp [ld,hs]
  ·rename_i hs;have hs':pY ds m=false:=by simpa using hs
   obtain ⟨k',hk',rfl⟩:=cH.1 h;obtain ⟨h1,h2⟩:=zUv ds ms k' hk';refine ⟨by simp;omega,?_⟩;unfold ld at h2 ⊢;rw [aq,cJ,aJ (by simp [hs']),h2,aq]
theorem yMz(ds:List Int)(ms:List dp):(ld ds ms).length<=ms.length:=aw _ _
def ti(w wr:World)(L:Lo)(b:Nat)(ds:List Int)(ms:List dp)(us R:List Value)(i j:Nat):Prop:=
 ∃ rY mid:List Value,i=(ld ds (ms.take j)).length/\rY.length=i/\mid.length=(j - i)*9/\i<j/\j<=ms.length /\
  dh wr b (gy (ld ds (ms.take j)) rY++mid++(gy (ms.drop j) (us.drop j)++R)) 112/\(∀ (n:Nat) m u,(ld ds (ms.take j))[n]?=some m->rY[n]?=some u->iE w L u m.cmd.writes)/\Mod (eF b) w wr
theorem ti.start{w wr:World}{L:Lo}{b k0:Nat}{ds:List Int}{ms:List dp}{us R:List Value}(lu:us.length=ms.length)(hk:k0<ms.length)(pN:ld ds (ms.take (k0+1))=ms.take k0)(hB:dh w b (gy ms us++R) 112)
  (hps:∀ (i:Nat) m u,ms[i]?=some m->us[i]?=some u->iE w L u m.cmd.writes) (hm:Mod dZ w wr):ti w wr L b ds ms us R k0 (k0+1):=by
 obtain ⟨m,hm0⟩:∃ m,ms[k0]?=some m:=⟨_,aA hk⟩;obtain ⟨u,hu0⟩:∃ u,us[k0]?=some u:=⟨_,aA (by omega)⟩;have iV:ms=ms.take k0++m :: ms.drop (k0+1):=by
  rw [aA hk] at hm0;simp at hm0;rw [<-hm0,<-bj hk,ai]
 have RS:k0<us.length:=by omega
 have GR:us=us.take k0++u :: us.drop (k0+1):=by
  rw [aA RS] at hu0;simp at hu0;rw [<-hu0,<-bj RS,ai]
 refine ⟨us.take k0,iW m u,by rw [pN,aZ];omega,by rw [aZ];omega,by simp [iW],by omega,by omega,?_,fun n m' u' h1 h2=>?_,hm.mono (fun _ _ e=>e.elim)⟩
 ·rw [pN];have:=hB.mod hm id;have e:gy ms us=gy (ms.take k0) (us.take k0)++(iW m u++gy (ms.drop (k0+1)) (us.drop (k0+1))):=by
   conv=>lhs;rw [iV,GR]
   rw [Qz _ _ _ _ (by simp [lu]),gy]
  rw [e] at this;simpa [List.append_assoc] using this
 ·rw [pN] at h1;have hn:n<k0:=by have:=(aB.1 h1).1;rw [aZ] at this;omega
  rw [cX,aJ hn] at h1 h2;exact hps n m' u' h1 h2
theorem JK{α:Type}{l:List α}{j:Nat}{x:α}(h:l[j]?=some x):l.drop j=x :: l.drop (j+1):=by
 have hj:j<l.length:=(aB.1 h).1;rw [aA hj] at h;simp at h;rw [<-h,<-bj hj]
theorem zRt{α:Type}{l:List α}{j:Nat}{x:α}(h:l[j]?=some x):l.take (j+1)=l.take j++[x]:=by
 have hj:j<l.length:=(aB.1 h).1;rw [aA hj] at h;simp at h;rw [bd hj,h]
theorem ti.look{w wr:World}{L:Lo}{b i j:Nat}{ds:List Int}{ms:List dp}{us R:List Value}(h:ti w wr L b ds ms us R i j){m:dp}{u:Value}(hm:ms[j]?=some m)(hu:us[j]?=some u) :
  ∀ n x,(iW m u)[n]?=some x->wr.cell? ⟨b,j*9+n,none⟩=some x:=by
 obtain ⟨rY,mid,h1,h2,h3,h4,h5,h6,h7,h8⟩:=h;intro n x hx;have hn:n<9:=(aB.1 hx).1;refine h6.cell _ ?_;rw [JK hm,JK hu,gy];have l1:=BA (ld ds (ms.take j)) rY (by omega);rw [aO (by rw [aD];omega),aD,l1,h3,<-h1];rw [show j*9+n - (i*9+(j - i)*9)=n by omega,aU,aI hn];exact hx
theorem ti.skip{w wr wr':World}{L:Lo}{b i j:Nat}{ds:List Int}{ms:List dp}{us R:List Value}(h:ti w wr L b ds ms us R i j){m:dp}{u:Value}(hm:ms[j]?=some m)(hu:us[j]?=some u)(hs:pY ds m=true)(iK:Mod dZ wr wr') :
  ti w wr' L b ds ms us R i (j+1):=by
 obtain ⟨rY,mid,h1,h2,h3,h4,h5,h6,h7,h8⟩:=h;have hj:j<ms.length:=(aB.1 hm).1;have e:ld ds (ms.take (j+1))=ld ds (ms.take j):=by rw [zRt hm,zXb,aJ hs]
 refine ⟨rY,mid++iW m u,by rw [e];exact h1,h2,by rw [aD,h3];simp [iW];omega,by omega,by omega,?_,by rw [e];exact h7,h8.trans (iK.mono (fun _ _ e=>e.elim))⟩;rw [e];have:=h6.mod iK id;rw [JK hm,JK hu,gy] at this;simpa [List.append_assoc] using this
theorem ti.keep{w wr wr':World}{L:Lo}{b i j:Nat}{ds:List Int}{ms:List dp}{us R:List Value}(h:ti w wr L b ds ms us R i j)(hps:∀ (i:Nat) m u,ms[i]?=some m->us[i]?=some u->iE w L u m.cmd.writes)
  {m:dp} {u:Value} (hm:ms[j]?=some m) (hu:us[j]?=some u) (hs:pY ds m=false) (iK:Mod dZ wr wr') :
  ti w (wr'.setCells b (i*9) (iW m u)) L b ds ms us R (i+1) (j+1):=by
 obtain ⟨rY,mid,h1,h2,h3,h4,h5,h6,h7,h8⟩:=h;have hj:j<ms.length:=(aB.1 hm).1;have e:ld ds (ms.take (j+1))=ld ds (ms.take j)++[m]:=by rw [zRt hm,zXb,aE (by simp [hs])]
 have l1:=BA (ld ds (ms.take j)) rY (by omega);refine ⟨rY++[u],mid.drop 9++iW m u,by rw [e,aD,<-h1];rfl,by simp [h2],by rw [aD,bJ,h3];simp [iW];omega,by omega,by omega,?_,fun n m' u' k1 k2=>?_,(h8.trans (iK.mono (fun _ _ e=>e.elim))).trans (Mod.setCells _ _ _)⟩
 ·rw [e,Qx _ _ _ _ (by omega)];have h9:=h6.mod iK id;rw [JK hm,JK hu,gy] at h9;have:=dh.setCells (g:=b) (t:=112) (iW m u) wr' (gy (ld ds (ms.take j)) rY) (mid.take 9) (mid.drop 9++(iW m u++gy (ms.drop (j+1)) (us.drop (j+1))++R)) (by
   rw [yBo];exact h9) (by rw [aZ,h3];simp [iW];omega)
  rw [l1,<-h1] at this;simpa [List.append_assoc] using this
 ·rw [e] at k1;by_cases hn:n<i
  ·rw [aI (by omega)] at k1;rw [aI (by omega)] at k2;exact h7 n m' u' k1 k2
  ·have hn':n=i:=by
    have:=(aB.1 k1).1;rw [aD] at this;simp at this;omega
   subst hn';rw [aO (by omega)] at k1 k2;simp [h2,<-h1] at k1 k2;subst k1 k2;exact hps j m u hm hu
theorem ti.room{w wr:World}{L:Lo}{b i j:Nat}{ds:List Int}{ms:List dp}{us R:List Value}(h:ti w wr L b ds ms us R i j):i<j/\j<=ms.length/\Mod (eF b) w wr /\
  (∀ n,n<(j - i)*9->(wr.cell? ⟨b,i*9+n,none⟩).isSome=true)/\∀ n,wr.frozen? ⟨b,n,none⟩=false:=by
 obtain ⟨rY,mid,h1,h2,h3,h4,h5,h6,h7,h8⟩:=h;have l1:=BA (ld ds (ms.take j)) rY (by omega);refine ⟨h4,h5,h8,fun n hn=>?_,fun n=>h6.frozen n⟩;obtain ⟨x,hx⟩:∃ x,(gy (ld ds (ms.take j)) rY++mid++(gy (ms.drop j) (us.drop j)++R))[i*9+n]?=some x:=⟨_,aA (by simp only [aD];omega)⟩;rw [show wr.cell? ⟨b,i*9+n,none⟩=some x from h6.cell _ hx];rfl
theorem ti.done{w wr:World}{L:Lo}{b i cap:Nat}{ds:List Int}{ms:List dp}{us R:List Value}{cs0:List Value}(h:ti w wr L b ds ms us R i ms.length)(mx:dh w b cs0 112)(DB:L<=b)(_hcap:ms.length<=cap)(hcm:cap<=maxLen)(lR:ms.length*9+R.length=cap*9)(hgd:∀ m∈ms,qW m) :
  eX (wr.setCells b (i*9) (wO (ms.length - i))) L (.slice (some ⟨b,0,none⟩) i cap) (ld ds ms)/\Mod (fun x=>(Value.slice (some ⟨b,0,none⟩) ms.length cap).ownBlock=some x) w (wr.setCells b (i*9) (wO (ms.length - i))):=by
 obtain ⟨rY,mid,h1,h2,h3,h4,h5,h6,h7,h8⟩:=h;rw [bI] at h1 h6 h7;have l1:=BA (ld ds ms) rY (by omega);have l2:=Tx (ms.length - i);have hM:=h8.trans (Mod.setCells (wO (ms.length - i)) (i*9) wr);have e0:gy (ms.drop ms.length) (us.drop ms.length)=[]:=by rw [cV];cases us.drop ms.length <;> rfl
 rw [e0,ak] at h6;have hB:=dh.setCells (g:=b) (t:=112) (wO (ms.length - i)) wr (gy (ld ds ms) rY) mid R h6 (by omega);rw [l1,<-h1] at hB;have hq:Qm w L (eF b):=by
  intro k hk e;simp only [eF] at e;subst e;rintro (e | ⟨⟨cur,fr,e⟩,_⟩)
  ·omega
  ·simp only [dh] at mx;rw [mx] at e;simp at e
 refine ⟨⟨rY,by omega,⟨by omega,.inr ⟨b,cap,(gy (ld ds ms) rY++wO (ms.length - i)++R).toArray,by rw [<-h1],DB,hB,by omega,hcm,?_,?_⟩⟩,fun n m u k1 k2=>(h7 n m u k1 k2).mod hM hq,fun m hm=>hgd m (al.1 hm).1⟩,hM.mono (fun x _ e=>by simp only [eF] at e;rw [e];rfl)⟩
 ·simp only [au,aD];omega
 ·rw [<-l1,aU,dR]
theorem zVt(L:Lo)(g q:Nat)(mr:Option Nat)(ds:List Int)(v:Value)(ms:List dp)(w:World)(hR:eX w L v ms)(hA:vX w L g q mr ds)(GY:v.ownBlock≠some q)(Cn:v.ownBlock≠some g)(NA:∀ k,v.ownBlock=some k->mr≠some k)(hf:ms.length<=200) :
  Calls Tryz.prog 138 #[v,.func (.func 131) #[] #[.pointer (some ⟨q,0,none⟩)]] w fun e w'=>∃ v',e=.returned v'/\eX w' L v' (ld ds ms)/\v'.ownBlock=v.ownBlock/\Mod (fun x=>v.ownBlock=some x) w w':=by
 have nV:=eC (yNa L g q mr ds v ms w hR hA hf)
 cases hfi:wS ds ms with
 | none=>
  rw [hfi] at nV;have HK:=eC (zXn ds ms hfi);go_enter Tryz.func138,Tryz.ntmps138;go_wp2_with fail;refine nV.out.mono ?_;rintro e w1 ⟨rfl,di⟩;simp only [VG];go_wp2_with fail;go_ret;exact ⟨v,rfl,by rw [HK.out];exact hR.mod di (Qm.none _ _) (fun _ _=>id),rfl,di.mono (fun _ _ e=>e.elim)⟩
 | some k0=>
  rw [hfi] at nV;obtain ⟨qT,pN⟩:=zUv ds ms k0 hfi;obtain ⟨us,lu,hrow,hps,hgd⟩:=hR;rcases hrow.2 with ⟨_,h0⟩ | ⟨b,cap,cur,rfl,DA,hg,hcap,hcm,hcs,htk⟩
  ·omega
  unfold maxLen at hcm;obtain ⟨R,hR⟩:∃ R,cur.toList=gy ms us++R:=by
   refine ⟨cur.toList.drop (ms.length*9),?_⟩;rw [<-htk,ai]
  have lA:=BA ms us lu;have mx:dh w b (gy ms us++R) 112:=by rw [dh,<-hR];exact hg
  have lR:ms.length*9+R.length=cap*9:=by
   have:(gy ms us++R).length=cap*9:=by rw [<-hR];simpa using hcs
   rw [aD,lA] at this;exact this
  have qs:=eC hps;have vQ:=eC hgd;have nW:=eC mx;have IN:=eC pN;clear hps hgd mx hR hg hcs htk hrow pN hfi lA;go_enter Tryz.func138,Tryz.ntmps138;go_wp2_with fail;refine nV.out.mono ?_;rintro e w1 ⟨rfl,di⟩;simp only [VG];have hne:((k0:Int) == -1)=false:=by rw [bk];omega
  go_wp2_with fail;go_loopw [5,6] (fun x y wr=>∃ i j:Nat,x=.int .i64 i/\y=.int .i64 j/\ti w wr L b ds ms us R i j) (fun _ y _=>ms.length - (intOf y).toNat)
  case atStart=>exact ⟨k0,k0+1,rfl,by go_num,ti.start lu qT IN.out nW.out qs.out di⟩
  case round=>
   obtain ⟨i,j,rfl,rfl,hI⟩:=hrel;obtain ⟨hij,hjn,qj,hcell,hfro⟩:=hI.room;by_cases hlt:j<ms.length
   ·obtain ⟨m,hm⟩:∃ m,ms[j]?=some m:=⟨_,aA hlt⟩;obtain ⟨u,hu⟩:∃ u,us[j]?=some u:=⟨_,aA (by omega)⟩;have hlk:=hI.look hm hu;have q0:=hlk 0 _ rfl;have q1:=hlk 1 _ rfl;have q2:=hlk 2 _ rfl;have q3:=hlk 3 _ rfl;have q4:=hlk 4 _ rfl;have q5:=hlk 5 _ rfl;have q6:=hlk 6 _ rfl;have q7:=hlk 7 _ rfl;have q8:=hlk 8 _ rfl;simp only [bC] at q0;have jB:=vQ.out m (aC hm);obtain ⟨ua,dj,rfl⟩:∃ ua dj,u=.slice ua m.cmd.writes.length dj:=by obtain ⟨ua,dj,h,_⟩:=qs.out j m u hm hu;exact ⟨ua,dj,h⟩
    have Rx:=(hA.mod qj (fun e=>GY (by rw [e];rfl)) (fun e=>Cn (by rw [e];rfl)) (fun k hk e=>NA k (by rw [e];rfl) hk)).mod ((Mod.refl dZ wr).alloc (.cells #[.int .i64 m.kind,.int .i64 m.eI,.int .i64 m.to,.int .i64 m.db,.int .i64 m.n,.int .i64 m.cmd.kind,.int .i64 m.cmd.tx,.int .i64 m.cmd.time,.slice ua m.cmd.writes.length dj] 112)) id id (fun _ _=>id);have HC:=eC (Rx.call m (.slice ua m.cmd.writes.length dj) jB.1);have HI:=eC hI;have kh:=eC hm;have HUU:=eC hu;have vU:=eC hcell;have kx:=eC hfro;have fi:=dh.new wr (iW m (.slice ua m.cmd.writes.length dj)) 112;have hbz:b<wr.heap.size:=World.block_lt_of_cell? wr _ q0;clear hI hm hu hlk Rx hcell hfro;go_wp2_with fail;refine HC.out.mono ?_;rintro e w5 ⟨rfl,eu⟩;have AD:dh w5 wr.heap.size (iW m (.slice ua m.cmd.writes.length dj)) 112:=fi.mod eu id;have jk:=((Mod.refl dZ wr).alloc (.cells #[.int .i64 m.kind,.int .i64 m.eI,.int .i64 m.to,.int .i64 m.db,.int .i64 m.n,.int .i64 m.cmd.kind,.int .i64 m.cmd.tx,.int .i64 m.cmd.time,.slice ua m.cmd.writes.length dj] 112)).trans eu;clear HC q0 q1 q2 q3 q4 q5 q6 q7 q8 fi
    cases hs:pY ds m with
    | true=>
     have HN:=eC (HI.out.skip kh.out HUU.out hs jk);go_wp2_with fail;go_roundw
     case rel=>exact ⟨i,j+1,rfl,by go_num,HN.out⟩
     case measure=>simp [intOf];omega
    | false=>
     have HN:=eC (HI.out.keep qs.out kh.out HUU.out hs jk);obtain ⟨⟨p0,p1,p2,p3,p4,p5,p6,p7,p8⟩,_⟩:=iH AD;have hex:∀ c,c<9->∃ y,w5.cell? ⟨b,i*9+c,none⟩=some y:=fun c hc=>by
      obtain ⟨y,hy⟩:=az.1 (vU.out c (by omega));exact ⟨y,jk.cell hy id⟩
     have hfz:∀ c,w5.frozen? ⟨b,c,none⟩=false:=fun c=>(jk.frozen (p:=⟨b,c,none⟩) hbz id).trans (kx.out c);obtain ⟨y0,hy0⟩:=hex 0 (by omega);obtain ⟨y1,hy1⟩:=hex 1 (by omega);obtain ⟨y2,hy2⟩:=hex 2 (by omega);obtain ⟨y3,WV⟩:=hex 3 (by omega);obtain ⟨y4,WU⟩:=hex 4 (by omega);obtain ⟨y5,WT⟩:=hex 5 (by omega);obtain ⟨y6,hy6⟩:=hex 6 (by omega);obtain ⟨y7,hy7⟩:=hex 7 (by omega);obtain ⟨y8,hy8⟩:=hex 8 (by omega);have f0:=hfz (i*9+0);have f1:=hfz (i*9+1);have f2:=hfz (i*9+2);have f3:=hfz (i*9+3);have f4:=hfz (i*9+4);have f5:=hfz (i*9+5);have f6:=hfz (i*9+6);have f7:=hfz (i*9+7);have f8:=hfz (i*9+8);simp only [bC] at hy0 f0;have uF:b≠wr.heap.size:=by omega
     clear hex hfz;go_wp2_with fail;go_roundw
     case rel=>exact ⟨i+1,j+1,by go_num,by go_num,by simpa [World.setCells,iW,Nat.add_assoc] using HN.out⟩
     case measure=>simp [intOf];omega
   ·obtain rfl:j=ms.length:=by omega
    have vR:=eC (hI.done (cap:=cap) nW.out DA hcap (by unfold maxLen;omega) lR vQ.out);have hb3:¬ cap=i:=by omega
    have hb4:i<=cap:=by omega
    have vU:=eC hcell;have kx:Hid (∀ n,n<(ms.length - i)*9->wr.frozen? ⟨b,i*9+n,none⟩=false):=fun n _=>hfro _;clear hI hcell hfro;go_wp2_with (first
     | (refine zVp rfl _ rfl b (i*9) (ms.length - i) _ rfl (by omega) vU.out kx.out ?_)
     | fail)
    go_ret;exact ⟨_,rfl,vR.out.1,rfl,vR.out.2⟩
end Go.Proofs.YtmaiggbnceejiaaGreatDoor
namespace Go.Proofs.YtmaiggbnceejiaaGreatDoor
open Go.RowKit Go.Lib Go.Maps
variable {E:Ext}
def Bf(s:ey)(id:Int):ey:=⟨ld (s.down++[id]) s.way,s.lost+((s.way.length:Int) - ((ld (s.down++[id]) s.way).length:Int)),s.down++[id]⟩
theorem pV.put{w':World}{L:Lo}{b n:Nat}{ds:List Int}{D:DataW Unit}{id:Int}(hd:∀ x,(Lit.int .i64 x).wf=true->Maps.has D (.int .i64 x)=decide (x∈ds))(hD:IsMap D)(hb:L<=b)(hn:n<=ds.length)
  (hid:gw id) (h:w'.ownsMap Tryz.prog 3 unitElem b (n+1) (D.put (.int .i64 id) (.agg []))):pV w' L (some b) (ds++[id]):=by
 refine .inr ⟨b,_,rfl,hb,h.mono (by simp;omega),fun x hx=>?_⟩;by_cases e:x=id
 ·subst e;rw [has_put_same hD (by simp [WideAt.IsKeyLit])];simp
 ·rw [has_put_other (by intro h;cases h;exact e rfl),hd x hx];simp [e]
theorem fY.mapped{w:World}{L:Lo}{g:Nat}{wv:Value}{s:ey}(h:fY E w L g wv none s) :
  fY E ((w.setCell ⟨g,4,none⟩ (.map (some w.heap.size))).alloc (.map #[] 0)) L g wv (some w.heap.size) s/\Mod (mo g wv none) w ((w.setCell ⟨g,4,none⟩ (.map (some w.heap.size))).alloc (.map #[] 0)):=by
 obtain ⟨a1,_,_⟩:=h.apart;have hz:(w.setCell ⟨g,4,none⟩ (.map (some w.heap.size))).heap.size=w.heap.size:=by simp [World.setCell]
 have di:Mod (eF g) w (w.setCell ⟨g,4,none⟩ (.map (some w.heap.size))):=Mod.dq g 4 _;have hm2:Mod (eF g) w ((w.setCell ⟨g,4,none⟩ (.map (some w.heap.size))).alloc (.map #[] 0)):=di.alloc _;have hq:Qm w L (eF g):=Qm.mc h (fun k _ e=>.inl e);have jy:=h.low;have hlt:=h.blk.lt;have hd0:s.down=[]:=by
  rcases h.dn with ⟨_,e⟩ | ⟨b,D,e,_⟩
  ·exact e
  ·cases e
 refine ⟨⟨(h.blk.set 4 (.map (some w.heap.size))).mod ((Mod.refl dZ _).alloc _) id,h.low,h.row.mod hm2 hq (fun k hk e=>a1 (by rw [hk,e])),?_,h.few,h.lo,fun k hk=>aG (h.xb k hk) hm2.size⟩,hm2.mono (fun i _ e=>.inl e)⟩;rw [hd0];have:=World.ownsMap_made (H:=Unit) (w.setCell ⟨g,4,none⟩ (.map (some w.heap.size))) Tryz.prog 3 unitElem;rw [hz] at this;exact .inr ⟨w.heap.size,.map [],rfl,by omega,this,fun x _=>by simp [Maps.has]⟩
theorem fY.Vx{w w1:World}{L:Lo}{g b:Nat}{wv:Value}{s:ey}{D:DataW Unit}{id:Int}(h:fY E w L g wv (some b) s)(ho:w.ownsMap Tryz.prog 3 unitElem b s.down.length D)(hh:∀ x,(Lit.int .i64 x).wf=true->Maps.has D (.int .i64 x)=decide (x∈s.down))(DB:L<=b)(hid:gw id)
  (hg:w.grownBy w1 (some b)) (h1:w1.ownsMap Tryz.prog 3 unitElem b (s.down.length+1) (D.put (.int .i64 id) (.agg []))):fY E w1 L g wv (some b) ⟨s.way,s.lost,s.down++[id]⟩/\Mod (fun k=>some b=some k) w w1:=by
 obtain ⟨a1,a2,a3⟩:=h.apart;have hm:Mod (fun k=>some b=some k) w w1:=(Mod.refl _ w).grown hg (fun x hx _=>hx);have hq:Qm w L (fun k=>some b=some k):=Qm.mc h (fun k _ e=>.inr (.inr e));exact ⟨⟨h.blk.mod hm a2,h.low,h.row.mod hm hq (fun k hk e=>a3 k hk e),pV.put hh ho.isMap DB (aF _) hid h1,h.few,h.lo,fun k hk=>aG (h.xb k hk) hm.size⟩,hm⟩
theorem Mod.Vz{w w1 w2:World}{g b:Nat}{v:Value}{mr:Option Nat}(h:Mod (mo g v mr) w w1)(hb:some b=mr\/w.heap.size<=b)(k:Mod (fun x=>some b=some x) w1 w2):Mod (mo g v mr) w w2:=
 h.trans' k (fun i hi e=>by
  cases e
  rcases hb with e | e
  ·exact .inr (.inr e.symm)
  ·omega)
theorem yRt(L:Lo)(g:Nat)(wv:Value)(mr:Option Nat)(s:ey)(id:Int)(w:World)(h:fY E w L g wv mr s)(hid:gw id)(hds:s.down.length<=1000000)(hlo:s.lost+200<=4611686018427387904) :
  Calls Tryz.prog 105 #[.pointer (some ⟨g,2,none⟩),.int .i64 id] w fun e w'=>∃ iJ WB,e=.returned (.int .i64 ((Bf s id).lost - s.lost))/\fY E w' L g iJ WB (Bf s id)/\iJ.ownBlock=wv.ownBlock/\(WB=mr\/∀ k,WB=some k->w.heap.size<=k)/\Mod (mo g wv mr) w w':=by
 have c2:=h.blk.cell 4 rfl;have f2:=h.blk.frozen 4;have hen:=fun (r:Option Nat) (w:World)=>run_eql_map_nil (P:=Tryz.prog) w 75 _ _ r Tryz.underlying75;have hmm:=@run_makeMap Tryz.prog;have hgl:=h.blk.lt;go_enter Tryz.func105,Tryz.ntmps105;go_upto_if 11 with fail;go_cut [] (fun wc=>∃ b,fY E wc L g wv (some b) s/\(some b=mr\/w.heap.size<=b)/\Mod (mo g wv mr) w wc)
 case first=>
  cases mr with
  | none=>
   have HH:=eC h.mapped;clear h;go_wp2_with fail;go_meet
   case rel=>exact ⟨_,HH.out.1,.inr (aF _),HH.out.2⟩
  | some b=>
   go_wp2_with fail;go_meet
   case rel=>exact ⟨b,h,.inl rfl,Mod.refl _ _⟩
 case rest=>
  obtain ⟨b,hN,kV,hM⟩:=hcut;clear c2 f2 h;have c2:=hN.blk.cell 4 rfl;have oT:=hN.dn;rcases oT with ⟨e,_⟩ | ⟨b',D,e,DB,hown,hhas⟩
  ·cases e
  cases e
  have hkey:keyOf Tryz.prog 3 (.int .i64 id)=some (.int .i64 id):=keyOf_int_mk Tryz.underlying3 (LP hid);have HO:=eC hown;have IU:=eC hhas;have HN:=eC hN;clear hown hhas hN;go_wp2_with (first
   | (at_mapUpdate;refine wpList_mapUpdate_own _ rfl _ _ _ 75 rfl 3 158 yv Tryz.underlying75 unitElem b _ D rfl HO.out (by unfold maxLen;omega) _ _ _ rfl rfl hkey _ [] unitElem_mk ?_)
   | fail)
  intro w1 hown1 hgrow1;have pO:=HN.out.Vx HO.out IU.out DB hid hgrow1 hown1;have py:=hM.Vz kV pO.2;obtain ⟨wa,fz,iT⟩:=pO.1.row.slice;subst iT;have c0:=pO.1.blk.cell 2 rfl;have f0:=pO.1.blk.frozen 2;have DQ:=eC pO.1;have ur:=pO.1.blk.lt;have DF:=pO.1.apart;have fW:=pO.1.few;have hl0:=pO.1.lo;have hkl:=yMz (s.down++[id]) s.way;simp only at c0 fW hl0;clear pO hown1 hgrow1 HO IU HN hM c2;go_upto_region 5 with fail;go_cut [] (fun wc=>∃ iJ,fY E wc L g iJ (some b) ⟨ld (s.down++[id]) s.way,s.lost,s.down++[id]⟩/\iJ.ownBlock=(Value.slice wa s.way.length fz).ownBlock/\Mod (mo g (.slice wa s.way.length fz) (some b)) w1 wc)
  case first=>
   go_region_law
    ((first
     | (go_simp;go_at_call 88;(refine (zWo g _).mono ?_;rintro e w2 ⟨hw2,rfl⟩;have hm2:Mod dZ w1 w2:=(by rw [hw2];exact ((Mod.refl dZ w1).drew).alloc _);have hq2:dh w2 w1.heap.size [.pointer (some ⟨g,2,none⟩)] 147:=(by rw [hw2];exact dh.new w1.drew _ _);clear hw2;have c20:=hm2.cell c0 (fun e=>e);have z2:=hm2.size;try dsimp only))
     | (go_simp;go_at_call 138;(refine (zVt L g w1.heap.size (some b) (s.down++[id]) _ s.way w2 (DQ.out.mod hm2 (Qm.none _ _) (fun _ _ e=>e)).row ⟨hq2.cell 0 rfl,(DQ.out.mod hm2 (Qm.none _ _) (fun _ _ e=>e)).blk.cell 4 rfl,(DQ.out.mod hm2 (Qm.none _ _) (fun _ _ e=>e)).dn⟩ (fun e=>cS _ (DQ.out.lt (.inr (.inl e))).2.1) DF.1 DF.2.2 fW).mono ?_;rintro e w3 ⟨v3,rfl,Ha,hv3,dz⟩;obtain ⟨JZ,Dv,GP⟩:=Ha.slice;subst GP;have Kg:=dz.cell c20 DF.1;have f30:=((dz.frozen (p:=⟨g,2,none⟩) (aG ur z2) DF.1).trans (hm2.frozen (p:=⟨g,2,none⟩) ur (fun e=>e))).trans f0;try dsimp only))
     | fail))
   all_goals
    have R:=(DQ.out.mod hm2 (Qm.none _ _) (fun _ _ e=>e)).EE dz Ha hv3 (by omega);go_wp2_with fail;go_meet
    case rel=>exact ⟨_,R.1,hv3,(hm2.mono (fun _ _ e=>e.elim)).trans R.2⟩
  case rest=>
   obtain ⟨iJ,sI,hv4,gM⟩:=hcut;obtain ⟨wb,wbc,iT⟩:=sI.row.slice;subst iT;have x0:=sI.blk.cell 2 rfl;have x1:=sI.blk.cell 3 rfl;have y1:=sI.blk.frozen 3;simp only at x0 x1;have HL:=eC (sI.loses (s.lost+((s.way.length:Int) - ((ld (s.down++[id]) s.way).length:Int))) ⟨by omega,by omega⟩);have sK:=eC (py.trans' gM (fun i hi e=>by
    rcases e with e | e | e
    ·exact .inl e
    ·exact .inr (.inl e)
    ·cases e
     rcases kV with e | e
     ·exact .inr (.inr e.symm)
     ·omega))
   have HV4:=eC hv4;clear sI gM py hv4 c0 f0;go_wp2_with fail;go_ret;refine ⟨?_,?_⟩
   ·simp only [Bf];go_num
   refine ⟨.slice wb (ld (s.down++[id]) s.way).length wbc,some b,?_,HV4.out,?_,?_⟩
   ·simpa [Bf] using HL.out.1
   ·rcases kV with e | e
    ·exact .inl e
    ·exact .inr (fun k hk=>by cases hk;exact e)
   ·simpa using sK.out.trans' HL.out.2 (fun i hi e=>by
     rcases e with e | e | e
     ·exact .inl e
     ·exact .inr (.inl (by rw [<-HV4.out];exact e))
     ·cases e
      rcases kV with e | e
      ·exact .inr (.inr e.symm)
      ·omega)
end Go.Proofs.YtmaiggbnceejiaaGreatDoor
