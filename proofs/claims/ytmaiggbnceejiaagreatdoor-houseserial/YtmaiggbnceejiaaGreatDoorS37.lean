import Derived.Test.YtmaiggbnceejiaaGreatDoorS36
import Derived.Deep.CutBlock
import Derived.Test.YtmaiggbnceejiaaGreatDoorS32
import Derived.Test.YtmaiggbnceejiaaGreatDoorS35
set_option linter.unusedVariables false
set_option maxRecDepth 100000
set_option maxHeartbeats 16000000
namespace Go.Proofs.YtmaiggbnceejiaaGreatDoor
open Go.RowKit Go.Lib Go.Maps
theorem RE(ts:List eM):∀ (l r d:List Nat) (s:gK),iW ts d s (l++r)=(iW ts d s l).bind fun s1=>iW ts (d++l) s1 r
 | [],r,d,s=>by simp [iW]
 | n :: l,r,d,s=>by
  by_cases hn:GD ts d n
  ·cases ht:ts[n]? with
   | none=>rw [bF,iW,iW,aP hn,aP hn,ht];rfl
   | some t=>
    cases hd:gh s t.ops with
    | none=>rw [bF,iW,iW,aP hn,aP hn,ht];simp only;rw [hd];rfl
    | some x=>
     rw [bF,Qt hn ht hd,Qt hn ht hd,RE ts l r (d++[n]) x.1];simp
  ·rw [bF,iW,iW,aK hn,aK hn];rfl
def JK(w:World)(ts:List eM)(o:List Nat)(s:gK)(e:Ending)(w':World):Prop:=
 Mod dZ w w'/\((∃ ov rest s',e=.returned (.tuple #[ov,.bool true])/\jA w' ov (eI (o++rest))/\iW ts o s rest=some s'/\lY ts (o++rest)/\Rs ts o s rest)\/(e=.returned (.tuple #[.slice none 0 0,.bool false])/\Jo ts o s))
def VE(ts:List eM)(r:Nat):Prop:=∀ (L tb fb:Nat) (tv ov:Value) (o:List Nat) (s:gK) (w:World),w.cell? ⟨tb,0,none⟩=some tv->w.cell? ⟨fb,0,none⟩=some (.func (.func 24) #[] #[.pointer (some ⟨tb,0,none⟩),.pointer (some ⟨fb,0,none⟩)])->mo w L tv ts->L<=w.heap.size->jA w ov (eI o)->o.Nodup->(∀ n∈o,n<ts.length)->iW ts [] jh o=some s->ts.length<=o.length+r ->
 Calls Tryz.prog 24 #[ov,.pointer (some ⟨tb,0,none⟩),.pointer (some ⟨fb,0,none⟩)] w (JK w ts o s)
def Ay(ts:List eM)(o:List Nat)(k:Nat):Prop:=∃ s2,iW ts [] jh (o++[k])=some s2
theorem yTr{ts:List eM}{o:List Nat}{s:gK}{k:Nat}(hg:iW ts [] jh o=some s)(h:¬ Ay ts o k):∀ rest s2,iW ts o s (k :: rest)=some s2->¬ lY ts (o++k :: rest):=fun rest s2 h2=>by
 obtain ⟨h1,t,r,h3,h4,_⟩:=Jz h2;refine absurd ?_ h;refine ⟨r.1,?_⟩;rw [RE,hg];simp only [cE,aY];rw [Qt h1 h3 h4];rfl
theorem Ci{ts:List eM}{o:List Nat}{s sk:gK}{k:Nat}(hg:iW ts [] jh o=some s)(h:iW ts [] jh (o++[k])=some sk)(rest:List Nat):iW ts o s (k :: rest)=iW ts (o++[k]) sk rest:=by
 rw [RE,hg] at h;simp only [cE,aY] at h;have:=RE ts [k] rest o s;rw [List.singleton_append,h] at this;exact this
theorem JK.split{w w':World}{ts:List eM}{o:List Nat}{s:gK}{e:Ending}(h:JK w ts o s e w'):∃ ov,∃ ok:Bool,e=.returned (.tuple #[ov,.bool ok])/\Mod dZ w w'/\(ok=true->∃ rest s',jA w' ov (eI (o++rest))/\iW ts o s rest=some s'/\lY ts (o++rest)/\Rs ts o s rest)/\(ok=false->Jo ts o s):=by
 obtain ⟨hm,⟨ov,rest,s',rfl,h⟩ | ⟨rfl,h⟩⟩:=h
 ·exact ⟨ov,true,rfl,hm,fun _=>⟨rest,s',h⟩,fun e=>(by cases e)⟩
 ·exact ⟨_,false,rfl,hm,fun e=>(by cases e),fun _=>h⟩
theorem yGz(ts:List eM)(hts:ts.length<=8)(kP:∀ t∈ts,t.ops.length<=200)(r:Nat)(hrec:∀ r',r=r'+1->VE ts r'):VE ts r:=by
 intro L tb fb tv ov o s w c1 c2 ht hL Xn hnd hin hg hr;have hol:o.length<=8:=by
  have:=dE hnd (l₂:=List.range ts.length) (fun x hx=>bZ.2 (hin x hx));simp at this;omega
 have QS:=dq (yCz L tv ov ts o w ht hL Xn hnd hin hts kP);obtain ⟨ta,gL,rfl,Nd,AN⟩:=fV.slice ht;have HIW:=dq Xn;obtain ⟨oa,oH,rfl,Nz,AU,tC⟩:=Xn;have Fs:=dq tC;have ku:=dq ht;have nr:=dq hnd;have mY:=dq hin;have vm:=dq kP;have HG:=dq hg;have Zc:=dq hrec;have zF:=dq (EM o);have Fx:=dq (Ls (ts:=ts) hnd);obtain ⟨i0,hi,hz0,hz1,hz2⟩:=info_parts Tryz.info3;unfold maxLen at AN AU;have hoI:((eI o).length:Int)<=8:=by have:=EM o;omega
 clear ht tC hnd hin kP hg hrec;go_enter Tryz.func24,Tryz.ntmps24;go_wp2_with fail;refine QS.out.mono ?_;rintro e w1 ⟨dh,b,rfl,hb⟩
 cases b with
 | true=>
  have HW:Hid (lY ts o):=(hb.1 rfl).1;have zK:Hid ((eI o).length=0\/∃ p,oa=some p/\∀ (j:Nat) u,((eI o).map (Value.int .i64))[j]?=some u->w1.cell? (p.add j)=some u):=by
   rcases Fs.out with e | ⟨b,off,e,hc⟩
   ·exact .inl (by rw [e];rfl)
   ·refine .inr ⟨_,e,fun j u hu=>?_⟩;rw [aa] at hu
    cases hj:(eI o)[j]? with
    | none=>rw [hj] at hu;cases hu
    | some x=>
     rw [hj] at hu;simp only [bK,ae] at hu;rw [<-hu,Go.WideShapes.add_plain];exact dh.cell (hc j x hj) id
  have uV:Hid (((eI o).map (Value.int .i64)).length=(eI o).length*1):=by simp [Hid]
  have qM:Hid (∀ u∈(eI o).map (Value.int .i64),u.oneCell'=true):=fun u hu=>by obtain ⟨x,_,rfl⟩:=af.1 hu;rfl
  have h63:(eI o).length<=maxLen:=by unfold maxLen;omega
  have h47:(eI o).length*8<=140737488355328:=by omega
  have fJ:=dq dh;clear hb dh QS;go_wp2_with (first
   | (at_builtin;(refine zTc (w0:=w1) rfl _ _ 26 rfl 3 i0 _ 1 8 Tryz.underlying26 hi hz0 hz1 hz2 rfl (by omega) zQl rfl oa (eI o).length oH ((eI o).map (Value.int .i64)) rfl uV.out zK.out qM.out h63 h47 ?_))
   | fail)
  intro g c w2 hrow hm2;have HI:=dq (jA.iA hrow);have gE:=dq (fJ.out.trans hm2);clear hrow hm2;go_wp2_with fail;go_ret2;exact ⟨gE.out,.inl ⟨_,[],s,rfl,by rw [cW];exact HI.out,rfl,by rw [cW];exact HW.out,fun _ _ _ _=>trivial⟩⟩
 | false=>
  have zG:Hid (¬ lY ts o):=fun h=>by
   have:=hb.2 (Fx.out.1 ⟨⟨s,HG.out⟩,h⟩)
   cases this
  have c1':=dh.cell c1 id;have fJ:=dq dh;clear hb dh QS Fx;go_wp2_with fail;go_loopw [20] (fun i wr=>∃ k:Nat,k<=ts.length/\i=.int .i64 k/\(∀ i rest s2,i<k->iW ts o s (i :: rest)=some s2->¬ lY ts (o++i :: rest))/\Mod dZ w wr) (fun i _=>ts.length - (intOf i).toNat)
  case atStart=>exact ⟨0,aT _,rfl,fun i _ _ h=>by omega,fJ.out⟩
  case round=>
   clear fJ c1';obtain ⟨k,hk,rfl,hall,hM⟩:=hrel;obtain ⟨wk,hwk⟩:∃ q,q=wr:=⟨_,rfl⟩;subst hwk;have vt:=dq hall;have HM:=dq hM;have SB:=hM.size;clear hall;by_cases hlt:k<ts.length
   ·have jd:(k:Int)<(ts.length:Int):=by omega
    have lJ:(0:Int)<=(k:Int):=by omega
    have d1:=hM.cell c1 id;have d2:=hM.cell c2 id;clear hM;go_wp2_with fail;go_loopw [7,25] (fun b p0 wx=>∃ p:Nat,p<=(eI o).length/\p0=.int .i64 p/\b=.bool (decide (k∈o.take p))/\wk=wx) (fun _ p0 _=>(eI o).length - (intOf p0).toNat)
    case atStart=>exact ⟨0,aT _,rfl,by simp,rfl⟩
    case round=>
     obtain ⟨p,hp,rfl,rfl,rfl⟩:=hrel;by_cases CC:p<(eI o).length
     ·have hpo:p<o.length:=by have:=zF.out;omega
      obtain ⟨n,hn⟩:∃ n,o[p]?=some n:=⟨_,aA hpo⟩;have sW:(eI o)[p]?=some (n:Int):=by unfold eI;rw [aa,hn];rfl
      rcases Fs.out with e | ⟨ob,off,rfl,hcl⟩
      ·rw [e] at CC;simp at CC
      have q0:=HM.out.cell (hcl p (n:Int) sW) id;have hpI:(p:Int)<((eI o).length:Int):=by omega
      have hp0:(0:Int)<=(p:Int):=by omega
      have sC:o.take (p+1)=o.take p++[n]:=by
       rw [au hpo];rw [aA hpo] at hn;simp at hn;rw [hn]
      have xA:=dq sC;clear hn sW hcl sC;by_cases hin:k∈o.take p
      ·rw [aQ hin];go_wp2_with fail;go_roundw
       case rel=>exact ⟨p+1,by omega,by go_num,by rw [aQ (by rw [xA.out];simp [hin])],by trivial⟩
       case measure=>simp [intOf];omega
      ·rw [aL hin];by_cases XU:n=k
       ·subst XU;go_wp2_with fail;go_roundw
        case rel=>exact ⟨p+1,by omega,by go_num,by rw [aQ (by rw [xA.out];simp)],by trivial⟩
        case measure=>simp [intOf];omega
       ·have hnb:((n:Int) == (k:Int))=false:=by simp;omega
        go_wp2_with fail;go_roundw
        case rel=>exact ⟨p+1,by omega,by go_num,by rw [aL (by rw [xA.out];simp [hin];omega)],by trivial⟩
        case measure=>simp [intOf];omega
     ·have hpe:o.take p=o:=by have:=zF.out;rw [bL (by omega)]
      rw [hpe];clear hpe;obtain ⟨bi,yC⟩:∃ b:Bool,b=decide (k∈o):=⟨_,rfl⟩;rw [<-yC];have HBI:=dq yC;clear yC;go_upto_region 12 with fail;go_cut [47] (fun v wc=>∃ b:Bool,v=.bool b/\(b=false↔(k∉o/\Ay ts o k))/\Mod dZ wk wc)
      case first=>
       cases bi with
       | true=>
        have hin:k∈o:=of_decide_eq_true HBI.out.symm;go_region
        all_goals
         go_wp2_with fail;go_meet
         case rel=>exact ⟨true,rfl,⟨fun h=>(by cases h),fun h=>absurd hin h.1⟩,(Mod.refl dZ wk).drew⟩
       | false=>
        have hin:k∉o:=of_decide_eq_false HBI.out.symm;have BR:=dq (HIW.out.mod HM.out);have xF:Hid (Mod dZ wk wk.drew):=(Mod.refl dZ wk).drew;have kA:=dq (yPv wk);have lX:=dq (yPu wk (k:Int));have qO:=dq (yPt wk (k:Int));clear c1 c2;have c1:=d1;have c2:=d2;refine Ln fun fr gI=>?_;refine MA fun Q1 kE=>?_;have fD:∀ (d:Nat) (v:Value) (c:List PanicEntry) (a:Act) (w:World),Q1 (.panic c) (a.put (some d) v) w->Q1 (.panic c) a w:=fun d v c a w h=>by rw [kE] at h ⊢;exact h
        have uU:=dq kE;clear kE;have hsz:fr.tmps.size=62:=by rw [gI];rfl
        obtain ⟨_,h0⟩:∃ h:0<fr.tmps.size,fr.tmps[0]=.slice oa (eI o).length oH:=aG.1 (by rw [gI];rfl);obtain ⟨_,h1⟩:∃ h:1<fr.tmps.size,fr.tmps[1]=.pointer (some ⟨tb,0,none⟩):=aG.1 (by rw [gI];rfl);obtain ⟨_,h2⟩:∃ h:2<fr.tmps.size,fr.tmps[2]=.pointer (some ⟨fb,0,none⟩):=aG.1 (by rw [gI];rfl);obtain ⟨_,h6⟩:∃ h:6<fr.tmps.size,fr.tmps[6]=.int .i64 (k:Int):=aG.1 (by rw [gI];rfl);obtain ⟨_,h7⟩:∃ h:7<fr.tmps.size,fr.tmps[7]=.bool false:=aG.1 (by rw [gI];rfl);have kI:=dq gI;clear gI;refine EZ 99 (fun wq=>Mod dZ wk wq) rfl ?_;refine fT 99 0 36 (.bool false) rfl rfl (fun c a w h=>fD _ _ c a w h) xF.out ⟨by rfl,fun wq hq=>by have q1:=hq.cell c1 id;have q2:=hq.cell c2 id;go_simp⟩ ?_;refine fT 99 1 37 (.bool false) rfl rfl (fun c a w h=>fD _ _ c a w h) xF.out ⟨by rfl,fun wq hq=>by have q1:=hq.cell c1 id;have q2:=hq.cell c2 id;go_simp⟩ ?_;refine fT 99 2 38 (.slice ta ts.length gL) rfl rfl (fun c a w h=>fD _ _ c a w h) xF.out ⟨by exact rQ rfl rfl rfl (by go_simp),fun wq hq=>by have q1:=hq.cell c1 id;have q2:=hq.cell c2 id;go_simp⟩ ?_;refine fT 99 4 40 (.slice oa (eI o).length oH) rfl rfl (fun c a w h=>fD _ _ c a w h) xF.out ⟨by exact rQ rfl rfl rfl (by go_simp),fun wq hq=>by have q1:=hq.cell c1 id;have q2:=hq.cell c2 id;go_simp⟩ ?_;refine fT 99 6 42 (.int .i64 (k:Int)) rfl rfl (fun c a w h=>fD _ _ c a w h) xF.out ⟨by exact rQ rfl rfl rfl (by go_simp),fun wq hq=>by have q1:=hq.cell c1 id;have q2:=hq.cell c2 id;go_simp⟩ ?_;refine Re 99 3 39 7 43 rfl rfl rfl rfl (by kernel_rfl) (by exact rQ rfl rfl rfl (by go_simp)) (by exact rQ rfl rfl rfl (by go_simp)) (vi:=.slice (some ⟨wk.heap.size,0,none⟩) 0 0) (wi:=(wk.alloc (.cells #[] 3)).drew) (vj:=.slice (some ⟨wk.heap.size,0,none⟩) 1 1) (wj:=(wk.alloc (.cells #[.int .i64 (k:Int)] 3)).drew) (by go_simp) (kA.out.1) (by go_simp) (((Mod.refl dZ wk).alloc _).drew) ?_ ?_
        ·obtain ⟨g,c,W5,a8,c8,W8,r5,eP,r8,im⟩:=yPr wk o k oa oH BR.out hol wk.heap.size _ wk.heap.size kA.out.1 kA.out.2.1 kA.out.2.2 (aF _) 26 26;refine Re 99 5 41 7 43 rfl rfl rfl rfl (by kernel_rfl) (by exact rQ rfl rfl rfl (by go_simp)) (by exact rQ rfl rfl rfl (by go_simp)) (vi:=.slice (some ⟨g,0,none⟩) (eI o).length c) (wi:=W5) (vj:=.slice (some ⟨wk.heap.size+1,0,none⟩) 1 1) (wj:=((wk.alloc (.cells #[] 3)).alloc (.cells #[.int .i64 (k:Int)] 3)).drew) (yo (s:=.tmp 39) (x:=.tmp 40) (t:=26) rfl (by go_simp) (by go_simp) r5) (eP) (by go_simp) (lX.out.1) ?_ ?_
         ·refine jW 99 7 43 rfl rfl (by kernel_rfl) (by exact rQ rfl rfl rfl (by go_simp)) (v:=.slice (some ⟨W5.heap.size,0,none⟩) 1 1) (w':=W5.alloc (.cells #[.int .i64 (k:Int)] 3)) (by go_simp) (eP.alloc _) ?_;refine jW 99 8 44 rfl rfl (by kernel_rfl) (by exact rQ rfl rfl rfl (by go_simp)) (v:=.slice a8 ((eI o).length+1) c8) (w':=W8) (yo (s:=.tmp 41) (x:=.tmp 43) (t:=26) rfl (by go_simp) (by go_simp) r8) (im.mod) ?_;have HST:=dq (Ub L _ _ ts (o++[k]) W8 (ku.out.mod (HM.out.trans im.mod) (fun _ _=>id)) (aJ hL (HM.out.trans im.mod).size) im.ints (bN.2 ⟨nr.out,by simp,fun a ha b hb=>by simp at hb;subst hb;exact fun e=>hin (e ▸ ha)⟩) (fun n hn=>by rcases aN.1 hn with h | h;exact mY.out n h;simp at h;omega) hts vm.out);refine GY 99 9 45 rfl rfl (by kernel_rfl) (by exact rQ rfl rfl rfl (by go_simp)) (f:=26) (args:=#[.slice ta ts.length gL,.slice a8 ((eI o).length+1) c8]) (by go_simp) (HST.out.mono ?_);rintro e w9 ⟨nn,b9,rfl,vN⟩;have fo:=im.mod.trans nn;refine ⟨_,rfl,fo,?_⟩;refine jW 99 10 46 rfl rfl (by kernel_rfl) (by exact rQ rfl rfl rfl (by go_simp)) (v:=.bool (!b9)) (w':=w9) (by go_simp) fo ?_;refine jW 99 11 47 rfl rfl (by kernel_rfl) (by rfl) (v:=.bool (!b9)) (w':=w9) (by go_simp) fo ?_;refine ⟨by kernel_rfl,?_⟩;have kE:=uU.out;subst kE;have gI:=kI.out;subst gI;have QZ:Hid ((!b9)=false↔(k∉o/\Ay ts o k)):=⟨fun h=>⟨hin,vN.1 (by simpa using h)⟩,fun h=>by rw [vN.2 h.2];rfl⟩;have yP:=dq fo;clear vN nn fo im r5 r8 eP HST;go_wp2_with fail;go_meet
          case rel=>exact ⟨_,rfl,QZ.out,yP.out⟩
         ·clear r5 eP r8 im;obtain ⟨g,c,W5,a8,c8,W8,r5,eP,r8,im⟩:=Rw wk o k oa oH BR.out hol wk.heap.size (wk.heap.size+1) _ wk.heap.size lX.out.1 lX.out.2.1 lX.out.2.2.1 (aF _) lX.out.2.2.2 (by omega) 26 26;refine jW 99 5 41 rfl rfl (by kernel_rfl) (by exact rQ rfl rfl rfl (by go_simp)) (v:=.slice (some ⟨g,0,none⟩) (eI o).length c) (w':=W5) (yo (s:=.tmp 39) (x:=.tmp 40) (t:=26) rfl (by go_simp) (by go_simp) r5) (eP) ?_;refine jW 99 8 44 rfl rfl (by kernel_rfl) (by exact rQ rfl rfl rfl (by go_simp)) (v:=.slice a8 ((eI o).length+1) c8) (w':=W8) (yo (s:=.tmp 41) (x:=.tmp 43) (t:=26) rfl (by go_simp) (by go_simp) r8) (im.mod) ?_;have HST:=dq (Ub L _ _ ts (o++[k]) W8 (ku.out.mod (HM.out.trans im.mod) (fun _ _=>id)) (aJ hL (HM.out.trans im.mod).size) im.ints (bN.2 ⟨nr.out,by simp,fun a ha b hb=>by simp at hb;subst hb;exact fun e=>hin (e ▸ ha)⟩) (fun n hn=>by rcases aN.1 hn with h | h;exact mY.out n h;simp at h;omega) hts vm.out);refine GY 99 9 45 rfl rfl (by kernel_rfl) (by exact rQ rfl rfl rfl (by go_simp)) (f:=26) (args:=#[.slice ta ts.length gL,.slice a8 ((eI o).length+1) c8]) (by go_simp) (HST.out.mono ?_);rintro e w9 ⟨nn,b9,rfl,vN⟩;have fo:=im.mod.trans nn;refine ⟨_,rfl,fo,?_⟩;refine jW 99 10 46 rfl rfl (by kernel_rfl) (by exact rQ rfl rfl rfl (by go_simp)) (v:=.bool (!b9)) (w':=w9) (by go_simp) fo ?_;refine jW 99 11 47 rfl rfl (by kernel_rfl) (by rfl) (v:=.bool (!b9)) (w':=w9) (by go_simp) fo ?_;refine ⟨by kernel_rfl,?_⟩;have kE:=uU.out;subst kE;have gI:=kI.out;subst gI;have QZ:Hid ((!b9)=false↔(k∉o/\Ay ts o k)):=⟨fun h=>⟨hin,vN.1 (by simpa using h)⟩,fun h=>by rw [vN.2 h.2];rfl⟩;have yP:=dq fo;clear vN nn fo im r5 r8 eP HST;go_wp2_with fail;go_meet
          case rel=>exact ⟨_,rfl,QZ.out,yP.out⟩
        ·obtain ⟨g,c,W5,a8,c8,W8,r5,eP,r8,im⟩:=Rw wk o k oa oH BR.out hol (wk.heap.size+1) wk.heap.size _ (wk.heap.size+1) qO.out.1 qO.out.2.1 qO.out.2.2.1 (by omega) qO.out.2.2.2 (by omega) 26 26;refine jW 99 3 39 rfl rfl (by kernel_rfl) (by exact rQ rfl rfl rfl (by go_simp)) (v:=.slice (some ⟨wk.heap.size+1,0,none⟩) 0 0) (w':=((wk.alloc (.cells #[.int .i64 (k:Int)] 3)).alloc (.cells #[] 3)).drew) (by go_simp) (qO.out.1) ?_;refine jW 99 5 41 rfl rfl (by kernel_rfl) (by exact rQ rfl rfl rfl (by go_simp)) (v:=.slice (some ⟨g,0,none⟩) (eI o).length c) (w':=W5) (yo (s:=.tmp 39) (x:=.tmp 40) (t:=26) rfl (by go_simp) (by go_simp) r5) (eP) ?_;refine jW 99 8 44 rfl rfl (by kernel_rfl) (by exact rQ rfl rfl rfl (by go_simp)) (v:=.slice a8 ((eI o).length+1) c8) (w':=W8) (yo (s:=.tmp 41) (x:=.tmp 43) (t:=26) rfl (by go_simp) (by go_simp) r8) (im.mod) ?_;have HST:=dq (Ub L _ _ ts (o++[k]) W8 (ku.out.mod (HM.out.trans im.mod) (fun _ _=>id)) (aJ hL (HM.out.trans im.mod).size) im.ints (bN.2 ⟨nr.out,by simp,fun a ha b hb=>by simp at hb;subst hb;exact fun e=>hin (e ▸ ha)⟩) (fun n hn=>by rcases aN.1 hn with h | h;exact mY.out n h;simp at h;omega) hts vm.out);refine GY 99 9 45 rfl rfl (by kernel_rfl) (by exact rQ rfl rfl rfl (by go_simp)) (f:=26) (args:=#[.slice ta ts.length gL,.slice a8 ((eI o).length+1) c8]) (by go_simp) (HST.out.mono ?_);rintro e w9 ⟨nn,b9,rfl,vN⟩;have fo:=im.mod.trans nn;refine ⟨_,rfl,fo,?_⟩;refine jW 99 10 46 rfl rfl (by kernel_rfl) (by exact rQ rfl rfl rfl (by go_simp)) (v:=.bool (!b9)) (w':=w9) (by go_simp) fo ?_;refine jW 99 11 47 rfl rfl (by kernel_rfl) (by rfl) (v:=.bool (!b9)) (w':=w9) (by go_simp) fo ?_;refine ⟨by kernel_rfl,?_⟩;have kE:=uU.out;subst kE;have gI:=kI.out;subst gI;have QZ:Hid ((!b9)=false↔(k∉o/\Ay ts o k)):=⟨fun h=>⟨hin,vN.1 (by simpa using h)⟩,fun h=>by rw [vN.2 h.2];rfl⟩;have yP:=dq fo;clear vN nn fo im r5 r8 eP HST;go_wp2_with fail;go_meet
         case rel=>exact ⟨_,rfl,QZ.out,yP.out⟩
      case rest=>
       obtain ⟨b,hvb,hbb,hm2⟩:=hcut;subst hvb;obtain ⟨wz,hwz⟩:∃ q,q=wc:=⟨_,rfl⟩;subst hwz;have gE:=dq (HM.out.trans hm2);have e1:=hm2.cell d1 id;have e2:=hm2.cell d2 id;clear hm2 d1 d2
       cases b with
       | true=>
        have BH:Hid (∀ rest s2,iW ts o s (k :: rest)=some s2->¬ lY ts (o++k :: rest)):=fun rest s2 h=>by
         by_cases hko:k∈o
         ·exact absurd hko (Jz h).1.1
         ·exact yTr HG.out (fun hc=>by have:=hbb.2 ⟨hko,hc⟩;cases this) rest s2 h
        clear hbb;go_wp2_with fail;go_roundw
        case rel=>
         refine ⟨k+1,by omega,by go_num,fun i rest s2 hi hg=>?_,gE.out⟩;by_cases e:i=k
         ·subst e;exact BH.out rest s2 hg
         ·exact vt.out i rest s2 (by omega) hg
        case measure=>simp [intOf];omega
       | false=>
        obtain ⟨hin,sk,hsk⟩:=hbb.1 rfl;clear hbb;have hroom:=yJw nr.out mY.out hlt hin;obtain ⟨r',rfl⟩:∃ r',r=r'+1:=⟨r - 1,by omega⟩;have ED:=dq (Zc.out r' rfl);have zD:=dq hsk;have hlen:ts.length<=(o++[k]).length+r':=by simp;omega
        clear hsk;go_upto_region 13 with fail;go_cut [10,11] (fun ov2 okv wc=>∃ ok:Bool,okv=.bool ok/\Mod dZ wz wc/\(ok=true->∃ rest s',jA wc ov2 (eI (o++k :: rest))/\iW ts o s (k :: rest)=some s'/\lY ts (o++k :: rest)/\Mf ts o s k (k :: rest))/\(ok=false->∀ rest s2,iW ts o s (k :: rest)=some s2->¬ lY ts (o++k :: rest)))
        case first=>
         have BR:=dq (HIW.out.mod gE.out);have xF:Hid (Mod dZ wz wz.drew):=(Mod.refl dZ wz).drew;have kA:=dq (yPv wz);have lX:=dq (yPu wz (k:Int));have qO:=dq (yPt wz (k:Int));clear c1 c2;have c1:=e1;have c2:=e2;refine Ln fun fr gI=>?_;refine MA fun Q1 kE=>?_;have fD:∀ (d:Nat) (v:Value) (c:List PanicEntry) (a:Act) (w:World),Q1 (.panic c) (a.put (some d) v) w->Q1 (.panic c) a w:=fun d v c a w h=>by rw [kE] at h ⊢;exact h
         have uU:=dq kE;clear kE;have hsz:fr.tmps.size=62:=by rw [gI];rfl
         obtain ⟨_,h0⟩:∃ h:0<fr.tmps.size,fr.tmps[0]=.slice oa (eI o).length oH:=aG.1 (by rw [gI];rfl);obtain ⟨_,h1⟩:∃ h:1<fr.tmps.size,fr.tmps[1]=.pointer (some ⟨tb,0,none⟩):=aG.1 (by rw [gI];rfl);obtain ⟨_,h2⟩:∃ h:2<fr.tmps.size,fr.tmps[2]=.pointer (some ⟨fb,0,none⟩):=aG.1 (by rw [gI];rfl);obtain ⟨_,h6⟩:∃ h:6<fr.tmps.size,fr.tmps[6]=.int .i64 (k:Int):=aG.1 (by rw [gI];rfl);have kI:=dq gI;clear gI;refine EZ 99 (fun wq=>Mod dZ wz wq) rfl ?_;refine fT 99 0 49 (.func (.func 24) #[] #[.pointer (some ⟨tb,0,none⟩),.pointer (some ⟨fb,0,none⟩)]) rfl rfl (fun c a w h=>fD _ _ c a w h) xF.out ⟨by rfl,fun wq hq=>by have q1:=hq.cell c1 id;have q2:=hq.cell c2 id;go_simp⟩ ?_;refine fT 99 2 51 (.slice oa (eI o).length oH) rfl rfl (fun c a w h=>fD _ _ c a w h) xF.out ⟨by rfl,fun wq hq=>by have q1:=hq.cell c1 id;have q2:=hq.cell c2 id;go_simp⟩ ?_;refine fT 99 4 53 (.int .i64 (k:Int)) rfl rfl (fun c a w h=>fD _ _ c a w h) xF.out ⟨by rfl,fun wq hq=>by have q1:=hq.cell c1 id;have q2:=hq.cell c2 id;go_simp⟩ ?_;refine Re 99 1 50 5 54 rfl rfl rfl rfl (by kernel_rfl) (by rfl) (by rfl) (vi:=.slice (some ⟨wz.heap.size,0,none⟩) 0 0) (wi:=(wz.alloc (.cells #[] 3)).drew) (vj:=.slice (some ⟨wz.heap.size,0,none⟩) 1 1) (wj:=(wz.alloc (.cells #[.int .i64 (k:Int)] 3)).drew) (by go_simp) (kA.out.1) (by go_simp) (((Mod.refl dZ wz).alloc _).drew) ?_ ?_
         ·obtain ⟨g,c,W5,a8,c8,W8,r5,eP,r8,im⟩:=yPr wz o k oa oH BR.out hol wz.heap.size _ wz.heap.size kA.out.1 kA.out.2.1 kA.out.2.2 (aF _) 26 26;refine Re 99 3 52 5 54 rfl rfl rfl rfl (by kernel_rfl) (by rfl) (by rfl) (vi:=.slice (some ⟨g,0,none⟩) (eI o).length c) (wi:=W5) (vj:=.slice (some ⟨wz.heap.size+1,0,none⟩) 1 1) (wj:=((wz.alloc (.cells #[] 3)).alloc (.cells #[.int .i64 (k:Int)] 3)).drew) (yo (s:=.tmp 50) (x:=.tmp 51) (t:=26) rfl (by go_simp) (by go_simp) r5) (eP) (by go_simp) (lX.out.1) ?_ ?_
          ·refine jW 99 5 54 rfl rfl (by kernel_rfl) (by rfl) (v:=.slice (some ⟨W5.heap.size,0,none⟩) 1 1) (w':=W5.alloc (.cells #[.int .i64 (k:Int)] 3)) (by go_simp) (eP.alloc _) ?_;refine jW 99 6 55 rfl rfl (by kernel_rfl) (by rfl) (v:=.slice a8 ((eI o).length+1) c8) (w':=W8) (yo (s:=.tmp 52) (x:=.tmp 54) (t:=26) rfl (by go_simp) (by go_simp) r8) (im.mod) ?_;have Fm:=dq (ED.out L tb fb _ _ (o++[k]) sk W8 (im.mod.cell e1 id) (im.mod.cell e2 id) (ku.out.mod (gE.out.trans im.mod) (fun _ _=>id)) (aJ hL (gE.out.trans im.mod).size) im.ints (bN.2 ⟨nr.out,by simp,fun a ha b hb=>by simp at hb;subst hb;exact fun e=>hin (e ▸ ha)⟩) (fun n hn=>by rcases aN.1 hn with h | h;exact mY.out n h;simp at h;omega) zD.out hlen);refine GY 99 7 56 rfl rfl (by kernel_rfl) (by rfl) (f:=24) (args:=#[.slice a8 ((eI o).length+1) c8,.pointer (some ⟨tb,0,none⟩),.pointer (some ⟨fb,0,none⟩)]) (by go_simp) (Fm.out.mono ?_);intro e w9 h9;obtain ⟨wL,sr,rfl,nn,FF,FI⟩:=h9.split;have fo:=im.mod.trans nn;refine ⟨_,rfl,fo,?_⟩;refine fT 99 8 48 (.tuple #[wL,.bool sr]) rfl rfl (fun c a w h=>fD _ _ c a w h) fo ⟨by rfl,fun wq hq=>by go_simp⟩ ?_;refine fT 99 9 57 (wL) rfl rfl (fun c a w h=>fD _ _ c a w h) fo ⟨by rfl,fun wq hq=>by go_simp⟩ ?_;refine fT 99 10 58 (.bool sr) rfl rfl (fun c a w h=>fD _ _ c a w h) fo ⟨by rfl,fun wq hq=>by go_simp⟩ ?_;refine fT 99 11 10 (wL) rfl rfl (fun c a w h=>fD _ _ c a w h) fo ⟨by rfl,fun wq hq=>by go_simp⟩ ?_;refine fT 99 12 11 (.bool sr) rfl rfl (fun c a w h=>fD _ _ c a w h) fo ⟨by rfl,fun wq hq=>by go_simp⟩ ?_;refine ⟨by kernel_rfl,?_⟩;have kE:=uU.out;subst kE;have gI:=kI.out;subst gI;have Pe:Hid (sr=true->∃ rest s',jA w9 wL (eI (o++k :: rest))/\iW ts o s (k :: rest)=some s'/\lY ts (o++k :: rest)/\Mf ts o s k (k :: rest)):=fun h=>by
            obtain ⟨rest,s',k1,k2,k3,k4⟩:=FF h;refine ⟨rest,s',by simpa using k1,by rw [Ci HG.out zD.out];exact k2,by simpa using k3,rest,rfl,fun r' s2 hg hw=>?_⟩;rw [Ci HG.out zD.out] at hg;exact k4 r' s2 hg (by simpa using hw)
           have QF:Hid (sr=false->∀ rest s2,iW ts o s (k :: rest)=some s2->¬ lY ts (o++k :: rest)):=fun h rest s2 hg=>by
            rw [Ci HG.out zD.out] at hg;have:=FI h rest s2 hg;simpa using this
           have yP:=dq fo;clear FF FI nn fo im r5 r8 eP Fm;go_wp2_with fail;go_meet
           case rel=>exact ⟨_,rfl,yP.out,Pe.out,QF.out⟩
          ·clear r5 eP r8 im;obtain ⟨g,c,W5,a8,c8,W8,r5,eP,r8,im⟩:=Rw wz o k oa oH BR.out hol wz.heap.size (wz.heap.size+1) _ wz.heap.size lX.out.1 lX.out.2.1 lX.out.2.2.1 (aF _) lX.out.2.2.2 (by omega) 26 26;refine jW 99 3 52 rfl rfl (by kernel_rfl) (by rfl) (v:=.slice (some ⟨g,0,none⟩) (eI o).length c) (w':=W5) (yo (s:=.tmp 50) (x:=.tmp 51) (t:=26) rfl (by go_simp) (by go_simp) r5) (eP) ?_;refine jW 99 6 55 rfl rfl (by kernel_rfl) (by rfl) (v:=.slice a8 ((eI o).length+1) c8) (w':=W8) (yo (s:=.tmp 52) (x:=.tmp 54) (t:=26) rfl (by go_simp) (by go_simp) r8) (im.mod) ?_;have Fm:=dq (ED.out L tb fb _ _ (o++[k]) sk W8 (im.mod.cell e1 id) (im.mod.cell e2 id) (ku.out.mod (gE.out.trans im.mod) (fun _ _=>id)) (aJ hL (gE.out.trans im.mod).size) im.ints (bN.2 ⟨nr.out,by simp,fun a ha b hb=>by simp at hb;subst hb;exact fun e=>hin (e ▸ ha)⟩) (fun n hn=>by rcases aN.1 hn with h | h;exact mY.out n h;simp at h;omega) zD.out hlen);refine GY 99 7 56 rfl rfl (by kernel_rfl) (by rfl) (f:=24) (args:=#[.slice a8 ((eI o).length+1) c8,.pointer (some ⟨tb,0,none⟩),.pointer (some ⟨fb,0,none⟩)]) (by go_simp) (Fm.out.mono ?_);intro e w9 h9;obtain ⟨wL,sr,rfl,nn,FF,FI⟩:=h9.split;have fo:=im.mod.trans nn;refine ⟨_,rfl,fo,?_⟩;refine fT 99 8 48 (.tuple #[wL,.bool sr]) rfl rfl (fun c a w h=>fD _ _ c a w h) fo ⟨by rfl,fun wq hq=>by go_simp⟩ ?_;refine fT 99 9 57 (wL) rfl rfl (fun c a w h=>fD _ _ c a w h) fo ⟨by rfl,fun wq hq=>by go_simp⟩ ?_;refine fT 99 10 58 (.bool sr) rfl rfl (fun c a w h=>fD _ _ c a w h) fo ⟨by rfl,fun wq hq=>by go_simp⟩ ?_;refine fT 99 11 10 (wL) rfl rfl (fun c a w h=>fD _ _ c a w h) fo ⟨by rfl,fun wq hq=>by go_simp⟩ ?_;refine fT 99 12 11 (.bool sr) rfl rfl (fun c a w h=>fD _ _ c a w h) fo ⟨by rfl,fun wq hq=>by go_simp⟩ ?_;refine ⟨by kernel_rfl,?_⟩;have kE:=uU.out;subst kE;have gI:=kI.out;subst gI;have Pe:Hid (sr=true->∃ rest s',jA w9 wL (eI (o++k :: rest))/\iW ts o s (k :: rest)=some s'/\lY ts (o++k :: rest)/\Mf ts o s k (k :: rest)):=fun h=>by
            obtain ⟨rest,s',k1,k2,k3,k4⟩:=FF h;refine ⟨rest,s',by simpa using k1,by rw [Ci HG.out zD.out];exact k2,by simpa using k3,rest,rfl,fun r' s2 hg hw=>?_⟩;rw [Ci HG.out zD.out] at hg;exact k4 r' s2 hg (by simpa using hw)
           have QF:Hid (sr=false->∀ rest s2,iW ts o s (k :: rest)=some s2->¬ lY ts (o++k :: rest)):=fun h rest s2 hg=>by
            rw [Ci HG.out zD.out] at hg;have:=FI h rest s2 hg;simpa using this
           have yP:=dq fo;clear FF FI nn fo im r5 r8 eP Fm;go_wp2_with fail;go_meet
           case rel=>exact ⟨_,rfl,yP.out,Pe.out,QF.out⟩
         ·obtain ⟨g,c,W5,a8,c8,W8,r5,eP,r8,im⟩:=Rw wz o k oa oH BR.out hol (wz.heap.size+1) wz.heap.size _ (wz.heap.size+1) qO.out.1 qO.out.2.1 qO.out.2.2.1 (by omega) qO.out.2.2.2 (by omega) 26 26;refine jW 99 1 50 rfl rfl (by kernel_rfl) (by rfl) (v:=.slice (some ⟨wz.heap.size+1,0,none⟩) 0 0) (w':=((wz.alloc (.cells #[.int .i64 (k:Int)] 3)).alloc (.cells #[] 3)).drew) (by go_simp) (qO.out.1) ?_;refine jW 99 3 52 rfl rfl (by kernel_rfl) (by rfl) (v:=.slice (some ⟨g,0,none⟩) (eI o).length c) (w':=W5) (yo (s:=.tmp 50) (x:=.tmp 51) (t:=26) rfl (by go_simp) (by go_simp) r5) (eP) ?_;refine jW 99 6 55 rfl rfl (by kernel_rfl) (by rfl) (v:=.slice a8 ((eI o).length+1) c8) (w':=W8) (yo (s:=.tmp 52) (x:=.tmp 54) (t:=26) rfl (by go_simp) (by go_simp) r8) (im.mod) ?_;have Fm:=dq (ED.out L tb fb _ _ (o++[k]) sk W8 (im.mod.cell e1 id) (im.mod.cell e2 id) (ku.out.mod (gE.out.trans im.mod) (fun _ _=>id)) (aJ hL (gE.out.trans im.mod).size) im.ints (bN.2 ⟨nr.out,by simp,fun a ha b hb=>by simp at hb;subst hb;exact fun e=>hin (e ▸ ha)⟩) (fun n hn=>by rcases aN.1 hn with h | h;exact mY.out n h;simp at h;omega) zD.out hlen);refine GY 99 7 56 rfl rfl (by kernel_rfl) (by rfl) (f:=24) (args:=#[.slice a8 ((eI o).length+1) c8,.pointer (some ⟨tb,0,none⟩),.pointer (some ⟨fb,0,none⟩)]) (by go_simp) (Fm.out.mono ?_);intro e w9 h9;obtain ⟨wL,sr,rfl,nn,FF,FI⟩:=h9.split;have fo:=im.mod.trans nn;refine ⟨_,rfl,fo,?_⟩;refine fT 99 8 48 (.tuple #[wL,.bool sr]) rfl rfl (fun c a w h=>fD _ _ c a w h) fo ⟨by rfl,fun wq hq=>by go_simp⟩ ?_;refine fT 99 9 57 (wL) rfl rfl (fun c a w h=>fD _ _ c a w h) fo ⟨by rfl,fun wq hq=>by go_simp⟩ ?_;refine fT 99 10 58 (.bool sr) rfl rfl (fun c a w h=>fD _ _ c a w h) fo ⟨by rfl,fun wq hq=>by go_simp⟩ ?_;refine fT 99 11 10 (wL) rfl rfl (fun c a w h=>fD _ _ c a w h) fo ⟨by rfl,fun wq hq=>by go_simp⟩ ?_;refine fT 99 12 11 (.bool sr) rfl rfl (fun c a w h=>fD _ _ c a w h) fo ⟨by rfl,fun wq hq=>by go_simp⟩ ?_;refine ⟨by kernel_rfl,?_⟩;have kE:=uU.out;subst kE;have gI:=kI.out;subst gI;have Pe:Hid (sr=true->∃ rest s',jA w9 wL (eI (o++k :: rest))/\iW ts o s (k :: rest)=some s'/\lY ts (o++k :: rest)/\Mf ts o s k (k :: rest)):=fun h=>by
           obtain ⟨rest,s',k1,k2,k3,k4⟩:=FF h;refine ⟨rest,s',by simpa using k1,by rw [Ci HG.out zD.out];exact k2,by simpa using k3,rest,rfl,fun r' s2 hg hw=>?_⟩;rw [Ci HG.out zD.out] at hg;exact k4 r' s2 hg (by simpa using hw)
          have QF:Hid (sr=false->∀ rest s2,iW ts o s (k :: rest)=some s2->¬ lY ts (o++k :: rest)):=fun h rest s2 hg=>by
           rw [Ci HG.out zD.out] at hg;have:=FI h rest s2 hg;simpa using this
          have yP:=dq fo;clear FF FI nn fo im r5 r8 eP Fm;go_wp2_with fail;go_meet
          case rel=>exact ⟨_,rfl,yP.out,Pe.out,QF.out⟩
        case rest=>
         obtain ⟨ok,hok,dy,Hp,hno⟩:=hcut;subst hok;have iI:=dq (gE.out.trans dy)
         cases ok with
         | true=>
          obtain ⟨rest,s',k1,k2,k3,k4⟩:=Hp rfl;have HK:=dq (And.intro k1 (And.intro k2 (And.intro k3 k4)));clear k1 k2 k3 k4 Hp hno dy;go_wp2_with fail;go_ret2;exact ⟨iI.out,.inl ⟨_,k :: rest,s',rfl,HK.out.1,HK.out.2.1,HK.out.2.2.1,yOd zG.out vt.out HK.out.2.2.2⟩⟩
         | false=>
          have BH:=dq (hno rfl);clear Hp hno dy;go_wp2_with fail;go_roundw
          case rel=>
           refine ⟨k+1,by omega,by go_num,fun i rest s2 hi hg=>?_,iI.out⟩;by_cases e:i=k
           ·subst e;exact BH.out rest s2 hg
           ·exact vt.out i rest s2 (by omega) hg
          case measure=>simp [intOf];omega
   ·clear hM;go_wp2_with fail;go_ret2;exact ⟨HM.out,.inr ⟨rfl,yFj zG.out (fun i rest s2 hi hg=>vt.out i rest s2 (by omega) hg)⟩⟩
theorem yMi(ts:List eM)(hts:ts.length<=8)(kP:∀ t∈ts,t.ops.length<=200):∀ r,VE ts r
 | 0=>yGz ts hts kP 0 (fun r' h=>by omega)
 | r+1=>yGz ts hts kP (r+1) (fun r' h=>by
   obtain rfl:r'=r:=by omega
   exact yMi ts hts kP r')
theorem jA.bare(w:World):jA w (.slice none 0 0) []:=⟨none,0,rfl,aF _,aT _,.inl rfl⟩
def Pb(w:World)(ts:List eM)(e:Ending)(w':World):Prop:=
 Mod dZ w w'/\((∃ ov o s,e=.returned (.tuple #[ov,.bool true])/\jA w' ov (eI o)/\iW ts [] jh o=some s/\lY ts o/\Rs ts [] jh o)\/(e=.returned (.tuple #[.slice none 0 0,.bool false])/\Jo ts [] jh))
theorem zZc(L:Nat)(tv:Value)(ts:List eM)(w:World)(ht:mo w L tv ts)(hL:L<=w.heap.size)(hts:ts.length<=8)(kP:∀ t∈ts,t.ops.length<=200) :
  Calls Tryz.prog 8 #[tv] w (Pb w ts):=by
 obtain ⟨a,cap,rfl,hc1,hc2⟩:=fV.slice ht;have tF:∀ fn first cap w,(Instr.makeFunc fn first cap).run Tryz.prog w=.ok (.func fn first cap) w:=fun _ _ _ _=>rfl
 have HT:=dq ht;obtain ⟨fv,qu⟩:∃ q:Value,q=.func (.func 24) #[] #[.pointer (some ⟨w.heap.size,0,none⟩),.pointer (some ⟨w.heap.size+1,0,none⟩)]:=⟨_,rfl⟩;have qx:dg ((w.alloc (.cells #[.slice a ts.length cap] 29)).alloc (.cells #[.nilFunc] 70)) (w.heap.size+1) [.nilFunc] 70:=by
  have:=dg.new (w.alloc (.cells #[.slice a ts.length cap] 29)) [.nilFunc] 70;simpa using this
 obtain ⟨w2,hw2⟩:∃ q,q=((w.alloc (.cells #[.slice a ts.length cap] 29)).alloc (.cells #[.nilFunc] 70)).setCell ⟨w.heap.size+1,0,none⟩ fv:=⟨_,rfl⟩;have hst:(store ⟨w.heap.size+1,0,none⟩ (.func (.func 24) #[] #[.pointer (some ⟨w.heap.size,0,none⟩),.pointer (some ⟨w.heap.size+1,0,none⟩)])).run Tryz.prog ((w.alloc (.cells #[.slice a ts.length cap] 29)).alloc (.cells #[.nilFunc] 70))=.ok () w2:=by
  rw [<-qu,hw2,run_store Tryz.prog _ _ _ _ (by rw [qu];rfl)];simp only [qx.cell 0 rfl,qx.frozen 0];rfl
 have hm2:Mod dZ w w2:=by rw [hw2];exact (((Mod.refl dZ w).alloc _).alloc _).setCell (p:=⟨w.heap.size+1,0,none⟩) (fun h=>by simp at h;omega) _
 have hb1:dg w2 w.heap.size [.slice a ts.length cap] 29:=by rw [hw2];exact ((dg.new w [.slice a ts.length cap] 29).mod ((Mod.refl dZ _).alloc _) id).mod (Mod.dt (w.heap.size+1) 0 _) (fun e=>by simp only [eA] at e;omega)
 have hb2:dg w2 (w.heap.size+1) [.func (.func 24) #[] #[.pointer (some ⟨w.heap.size,0,none⟩),.pointer (some ⟨w.heap.size+1,0,none⟩)]] 70:=by rw [hw2,<-qu];exact qx.set 0 fv
 have ZS:=dq (yMi ts hts kP 8 L w.heap.size (w.heap.size+1) _ (.slice none 0 0) [] jh w2 (hb1.cell 0 rfl) (hb2.cell 0 rfl) (ht.mod hm2 (fun _ _=>id)) (aJ hL hm2.size) (jA.bare _) (by simp) (by simp) rfl (by simpa using hts));have gE:=dq hm2;have c2:=hb2.cell 0 rfl;clear ht hm2 hb1 hb2 qx hw2 qu;go_enter Tryz.func8,Tryz.ntmps8;go_wp2_with fail;refine ZS.out.mono ?_;rintro e w5 ⟨eP,⟨ov,rest,s',rfl,k1,k2,k3,k4⟩ | ⟨rfl,hno⟩⟩
 ·have kv:=dq (gE.out.trans eP);have HK:=dq (And.intro k1 (And.intro k2 (And.intro k3 k4)));clear k1 k2 k3 k4 eP;go_wp2_with fail;go_ret2;exact ⟨kv.out,.inl ⟨ov,rest,s',rfl,HK.out⟩⟩
 ·have kv:=dq (gE.out.trans eP);have HN:=dq hno;clear eP hno;go_wp2_with fail;go_ret2;exact ⟨kv.out,.inr ⟨rfl,HN.out⟩⟩
theorem yHa{s:eC}{t:eM}(h:t∈qT s):t∈s.dW:=by
 obtain ⟨i,hi⟩:=aO h;obtain ⟨j,_,hj⟩:=Lz hi;exact aC hj
theorem yQt(s:eC):(qT s).length<=s.dW.length:=by rw [<-yAv];exact yAu _ _
theorem houseSerial_any(nodes:Int)(lv:Value)(acts:List ActD)(W:World)(hl:ActsV W W.heap.size lv acts)(hE:ET W)(hNM:NMo W W.heap.size)(h1W:1<W.heap.size) :
  Calls Tryz.prog 3 #[.int .i64 nodes,lv] W fun e W'=>e=.returned (.bool true)/\Mod dZ W W':=by
 have HB:=dV (yPs vg nodes false lv acts W (fun k hk=>vg.new hk false) (fun m s x h1 h2 h3=>h3.Mz h1 h2 x) hl hE hNM h1W);obtain ⟨la,ey,hlv,hlc,hlm⟩:=fV.slice hl;subst hlv;clear hl hE hNM;go_enter Tryz.func3,Tryz.ntmps3;go_wp2_with fail;refine HB.out.mono ?_;rintro e w1 (⟨Yx,rfl,dh⟩ | ⟨Yx,gs,g,rfl,hR⟩)
 ·have HM:=dV dh;clear dh HB;go_wp2_with fail;go_ret;exact ⟨rfl,HM.out⟩
 ·obtain ⟨ij,y,xv,vs,s,hP,FZ,nL,hop,hgl,hJ⟩:=hR;have fR:=FZ.few;have htl:=FZ.tl;have rV:=dV (yQu _ _ gs g y xv vs s w1 hP (by omega) (by omega));have hshort:=hJ.qi.short htl hJ.short;have Nk:=hJ.qi.Gm htl;have Nc:=hJ.tim;have LQ:Hid (∀ v us w2,ti w1 s vs (qT s) v us w2->Calls Tryz.prog 8 #[v] w2 (Pb w2 (qT s))/\Mod dZ W w2/\¬ Jo (qT s) [] jh):=fun v us w2 hT=>by
   refine ⟨zZc w2.heap.size v (qT s) w2 (hT.mB hP (fun t ht o ho=>?_) (fun t ht=>?_)) (aF _) (by have:=yQt s;omega) (fun t ht=>?_),ij.trans hT.md,Nk⟩
   ·have:=hshort t ht o ho;exact ⟨by unfold maxLen;omega,by unfold maxLen;omega⟩
   ·have:=Nc t (yHa ht);unfold gO;omega
   ·have:=hop t (yHa ht);omega
  clear ij hP FZ nL hop hgl hJ hshort Nk Nc fR htl HB;go_wp2_with fail;refine rV.out.mono ?_;rintro e w2 ⟨v,us,rfl,hT⟩;obtain ⟨a1,a2,a3⟩:=LQ.out v us w2 hT;have HS:=dV a1;have gE:=dV a2;have Sw:=dV a3;clear a1 a2 a3 hT rV LQ;go_wp2_with fail;refine HS.out.mono ?_;rintro e w3 ⟨dy,⟨ov,o,s2,rfl,_⟩ | ⟨rfl,hn⟩⟩
  ·have iI:=dV (gE.out.trans dy);clear dy HS gE;go_wp2_with fail;go_ret;exact ⟨rfl,iI.out⟩
  ·exact absurd hn Sw.out
end Go.Proofs.YtmaiggbnceejiaaGreatDoor
