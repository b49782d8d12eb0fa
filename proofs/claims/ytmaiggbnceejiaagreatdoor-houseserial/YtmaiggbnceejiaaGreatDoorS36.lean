import Derived.Test.YtmaiggbnceejiaaGreatDoorS35
import Derived.Test.YtmaiggbnceejiaaGreatDoorS28
import Derived.Deep.CutBlock
import Derived.Test.YtmaiggbnceejiaaGreatDoorS16
set_option linter.unusedVariables false
set_option maxRecDepth 100000
set_option maxHeartbeats 16000000
namespace Go.Proofs.YtmaiggbnceejiaaGreatDoor
open Go.RowKit Go.Lib Go.Maps
theorem MJ(w:World)(e:TypeId)(sz:Nat):(w.alloc (.cells #[] e)).ownsRow w.heap.size e sz (.slice (some ⟨w.heap.size,0,none⟩) 0 0) 0 []:=
 ⟨by simp,.inr ⟨w.heap.size,0,#[],rfl,aF _,heap_alloc_new w _,aF _,by unfold maxLen;omega,by simp,by simp⟩⟩
theorem zTc{w0:World}{ops:Array Oper}{rest:List Oper}{o:Oper}{a:Act}{Q:Exit->Act->World->Prop}(hgd:o.guard=none)(s x:Operand)(t:TypeId)
  (ho:o.op=.call { callee:=.builtin .append,args:=#[s,x],argTypes:=#[t,t] })
  (e:TypeId) (i:TypeInfo) (z:Value) (size bytes:Nat) (ht:Tryz.prog.underlying t=some (.slice e)) (hi:Tryz.prog.info? e=some i) (hz:i.zero=some z)
  (hsize:i.size=size) (hby:i.bytes=bytes) (hzs:z.cells.size=size) (hsz:0<size)
  (hnil:∀ (g:Nat) (a:Option Addr) (c:Nat) (ty:TypeId) (w:World),(Builtin.append_ #[t,t] ty #[.slice (some ⟨g,0,none⟩) 0 0,.slice a 0 c]).run Tryz.prog w=.ok (.slice (some ⟨g,0,none⟩) 0 0) w)
  (hs:a.eval s=.slice (some ⟨w0.heap.size,0,none⟩) 0 0)
  (ad:Option Addr) (m c:Nat) (news:List Value) (hx:a.eval x=.slice ad m c) (hl:news.length=m*size) (hnews:m=0\/∃ p,ad=some p/\∀ j u,news[j]?=some u->w0.cell? (p.add j)=some u) (h1:∀ u∈news,u.oneCell'=true)
  (h63:m<=maxLen) (hbytes:m*bytes<=140737488355328)
  (h:∀ (g cap:Nat) w',w'.ownsRow w0.heap.size e size (.slice (some ⟨g,0,none⟩) m cap) m news->Mod dZ w0 w'->wpList Tryz.prog ops Q rest (a.put o.dst (.slice (some ⟨g,0,none⟩) m cap)) w') :
  wpList Tryz.prog ops Q (o :: rest) a (w0.alloc (.cells #[] e)):=by
 have hm0:Mod dZ w0 (w0.alloc (.cells #[] e)):=(Mod.refl _ w0).alloc _;by_cases hm:m=0
 ·subst hm;have hn:news=[]:=aR (by simpa using hl);subst hn;refine wpList_plain hgd fun K hK=>?_;have hr:=hnil w0.heap.size ad c o.type (w0.alloc (.cells #[] e));unfold Oper.wp execOp;simp only [ho,resolve,invoke,builtin,Sem.run_bind,Sem.run_pure,Result.andThen_ok,bz,bW,cM,hs,hx,hr];exact hK _ _ (h _ _ _ (MJ w0 e size) hm0)
 ·obtain ⟨p,rfl,hc⟩:=hnews.resolve_left hm;refine wpList_append_own _ hgd s x t ho w0.heap.size e i z size bytes ht hi hz hsize hby hzs hsz _ 0 [] hs (MJ w0 e size) p m c news hx hl (fun j u hu=>hm0.cell (hc j u hu) id) h1 (by omega) (by rw [aX];exact hbytes) (by simp) ?_;intro v' w' hown hgrow hne;have dh:Mod dZ w0 w':=hm0.grown hgrow (fun x hx hlt=>by simp [Value.ownBlock] at hx;omega);simp only [aX,aY] at hown;rcases hown.2 with ⟨e0,e1⟩ | ⟨g,cap,cur,rfl,_⟩
  ·exact absurd e1 hm
  ·exact h g cap w' hown dh
theorem yAq:∀ (ts:List eM) (vs:List Value) (j:Nat) (x:Value),vs.length=ts.length->(nj ts vs)[j]?=some x->∃ (i r:Nat) (t:eM) (v:Value),j=i*3+r/\ts[i]?=some t/\vs[i]?=some v/\(sU t v)[r]?=some x:=fun ts vs j x hl h=>by
 have hj:j<ts.length*3:=by rw [<-Uu ts vs hl];exact (aB.1 h).1
 have hi:j / 3<ts.length:=by omega
 have hi':j / 3<vs.length:=by omega
 have hr:j % 3<(sU ts[j / 3] vs[j / 3]).length:=by show j % 3<3;omega
 have h1:=Ec ts vs (j / 3) ts[j / 3] vs[j / 3] hl (aA hi) (aA hi') (j % 3) _ (aA hr);rw [show j / 3*3+j % 3=j by omega,h] at h1;simp only [ae] at h1;exact ⟨j / 3,j % 3,ts[j / 3],vs[j / 3],by omega,aA hi,aA hi',by rw [h1];exact aA hr⟩
theorem zRw:∀ (ts:List eM) (vs:List Value),(∀ v∈vs,v.oneCell'=true)->∀ u∈nj ts vs,u.oneCell'=true
 | [],_,_,u,h=>by simp [nj] at h
 | _ :: _,[],_,u,h=>by simp [nj] at h
 | t :: ts,v :: vs,hv,u,h=>by
  rcases aN.1 h with h | h
  ·simp [sU] at h;rcases h with rfl | rfl | rfl
   ·exact hv _ (by simp)
   ·rfl
   ·rfl
  ·exact zRw ts vs (fun v hv'=>hv v (by simp [hv'])) u h
theorem mo.flat{w:World}{L:Nat}{a:Option Addr}{cap n:Nat}{ts:List eM}(h:mo w L (.slice a n cap) ts):∃ vs:List Value,vs.length=ts.length/\(n=0\/∃ p,a=some p/\∀ (j:Nat) u,(nj ts vs)[j]?=some u->w.cell? (p.add j)=some u)/\(∀ (i:Nat) t v,ts[i]?=some t->vs[i]?=some v->nV w L v t.ops/\gO t.eF/\gO t.fI)/\∀ v∈vs,v.oneCell'=true:=by
 obtain ⟨a',cap',h1,_,_,h4⟩:=h;simp only [Value.slice.injEq] at h1;obtain ⟨rfl,rfl,rfl⟩:=h1;rcases h4 with rfl | ⟨b,off,rfl,h6,h7⟩
 ·exact ⟨[],rfl,.inl rfl,fun i t v h=>by simp at h,fun v h=>by simp at h⟩
 have hch:∀ i,i<ts.length->∃ v:Value,∀ t,ts[i]?=some t->(nV w L v t.ops/\gO t.eF/\gO t.fI)/\∀ (j:Nat) x,(sU t v)[j]?=some x->w.cell? ⟨b,off+i*3+j,none⟩=some x:=fun i hi=>by
  obtain ⟨cs,⟨v,rfl,k1,k2,k3⟩,_,k4⟩:=h7 i ts[i] (aA hi);refine ⟨v,fun t ht=>?_⟩;rw [aA hi] at ht;simp only [ae] at ht;subst ht;exact ⟨⟨k1,k2,k3⟩,k4⟩
 obtain ⟨f,hf⟩:=Go.Deep.choose_lt (α:=Value) hch;have hget:∀ (i:Nat) t v,ts[i]?=some t->((List.range ts.length).map f)[i]?=some v->i<ts.length/\v=f i:=fun i t v ht hv=>by
  have hi:i<ts.length:=(aB.1 ht).1;rw [aa,cq hi] at hv;exact ⟨hi,by simpa using hv.symm⟩
 refine ⟨(List.range ts.length).map f,by simp,.inr ⟨_,rfl,fun j u hu=>?_⟩,fun i t v ht hv=>?_,fun v hv=>?_⟩
 ·obtain ⟨i,r,t,v,rfl,ht,hv,hr⟩:=yAq ts _ j u (by simp) hu;obtain ⟨hi,rfl⟩:=hget i t v ht hv;rw [Go.WideShapes.add_plain,<-cY];exact (hf i hi t ht).2 r u hr
 ·obtain ⟨hi,rfl⟩:=hget i t v ht hv;exact (hf i hi t ht).1
 ·obtain ⟨i,hi,rfl⟩:=af.1 hv;have hi':i<ts.length:=by simpa using hi
  obtain ⟨_,_,e,_⟩:=((hf i hi' ts[i] (aA hi')).1).1;rw [e];rfl
theorem Tryz.Hn:(Tryz.prog.info? 46).map (fun i=>(i.zero,i.size,i.bytes))=some (some (.agg #[.slice none 0 0,.int .i64 0,.int .i64 0]),3,40):=by kernel_rfl
theorem yAe(g:Nat)(a:Option Addr)(c:Nat)(ty:TypeId)(w:World):(Builtin.append_ #[29,29] ty #[.slice (some ⟨g,0,none⟩) 0 0,.slice a 0 c]).run Tryz.prog w=.ok (.slice (some ⟨g,0,none⟩) 0 0) w:=by
 cases a <;> kernel_rfl
theorem ju.ux{ty:TypeId}{w:World}{B b n cap:Nat}{ts:List eM}{vs:List Value}{i:Nat}{t:eM}(h:ju ty w B (.slice (some ⟨b,0,none⟩) n cap) ts vs)(hn:n=ts.length)(hi:ts[i]?=some t)(u:Int):ju ty (w.setCell ⟨b,i*3+2,none⟩ (.int .i64 u)) B (.slice (some ⟨b,0,none⟩) n cap) (ts.set i ⟨t.ops,t.eF,u⟩) vs:=by
 subst hn;refine ⟨by simpa using h.1,?_⟩;rw [<-VA ts vs i t u h.1 hi,ag];exact VW h.2 _ _
theorem yPj{ts:List eM}{o:List Nat}{j:Nat}{t:eM}(ht:ts[j]?=some t)(h1:j∉o)(h2:0<=t.fI):(iL ts o j).set j ⟨t.ops,t.eF,-1⟩=iL ts o (j+1):=by
 have hj:j<ts.length:=(aB.1 ht).1;apply bI;intro i;by_cases e:i=j
 ·subst e;rw [List.getElem?_set_self (by rw [yj];exact hj),yf ht,aP ⟨by omega,h1,h2⟩]
 ·rw [List.getElem?_set_ne (fun q=>e q.symm)]
  cases hi:ts[i]? with
  | none=>
   have hl:ts.length<=i:=by simpa using hi
   rw [ah (by rw [yj];exact hl),ah (by rw [yj];exact hl)]
  | some t'=>
   rw [yf hi,yf hi];by_cases q:i<j
   ·simp [q,show i<j+1 by omega]
   ·simp [q,show ¬ i<j+1 by omega]
theorem yDm{ts:List eM}{o:List Nat}{j:Nat}{t:eM}(ht:ts[j]?=some t)(h:j∈o\/¬ 0<=t.fI):iL ts o j=iL ts o (j+1):=by
 apply bI;intro i
 cases hi:ts[i]? with
 | none=>
  have hl:ts.length<=i:=by simpa using hi
  rw [ah (by rw [yj];exact hl),ah (by rw [yj];exact hl)]
 | some t'=>
  rw [yf hi,yf hi];by_cases e:i=j
  ·subst e;rw [ht] at hi;simp only [ae] at hi;subst hi;rw [aK (by omega),aK (fun q=>by rcases h with h | h;exact q.2.1 h;exact h q.2.2)]
  ·by_cases q:i<j
   ·simp [q,show i<j+1 by omega]
   ·simp [q,show ¬ i<j+1 by omega]
theorem Bb.stay{ts:List eM}{o:List Nat}{j:Nat}{t:eM}(hO:Bb ts o j)(ht:ts[j]?=some t)(h:j∈o\/¬ 0<=t.fI):Bb ts o (j+1):=fun i t' hi ht' h1 h2=>by
 by_cases e:i=j
 ·subst e;rw [ht] at ht';simp only [ae] at ht';subst ht';exact absurd h (by simp [h1,h2])
 ·exact hO i t' (by omega) ht' h1 h2
theorem Bb.more{ts:List eM}{o:List Nat}{j:Nat}{t:eM}(hO:Bb ts o j)(ht:ts[j]?=some t)(h:∀ (p k:Nat) u,o[p]?=some k->ts[k]?=some u->¬ t.fI<u.eF):Bb ts o (j+1):=fun i t' hi ht' h1 h2 k hk u hu=>by
 by_cases e:i=j
 ·subst e;rw [ht] at ht';simp only [ae] at ht';subst ht';obtain ⟨p,hp,q⟩:=cR hk;exact h p k u (by rw [aA hp,q]) hu
 ·exact hO i t' (by omega) ht' h1 h2 k hk u hu
theorem nV.up'{w:World}{L L':Nat}{v:Value}{os:List fg}(h:nV w L v os)(hL:L<=L'):nV w L' v os:=by
 obtain ⟨a,cap,h1,h2,h3,h4⟩:=h;refine ⟨a,cap,h1,h2,h3,?_⟩;rcases h4 with h4 | ⟨b,off,h5,h6,h7⟩
 ·exact .inl h4
 ·exact .inr ⟨b,off,h5,by omega,h7⟩
theorem jA.mod{w w':World}{v:Value}{ns:List Int}(h:jA w v ns)(hm:Mod dZ w w'):jA w' v ns:=by
 obtain ⟨a,cap,h1,h2,h3,h4⟩:=h;refine ⟨a,cap,h1,h2,h3,?_⟩;rcases h4 with h4 | ⟨b,off,h5,h6⟩
 ·exact .inl h4
 ·exact .inr ⟨b,off,h5,fun j x hx=>hm.cell (h6 j x hx) id⟩
def yVv(w:World)(ts:List eM)(o:List Nat)(e:Ending)(w':World):Prop:=Mod dZ w w'/\∃ b:Bool,e=.returned (.bool b)/\(b=true↔∃ s2,iW ts [] jh o=some s2)
theorem ju.cell'{ty:TypeId}{w:World}{B g n cap:Nat}{ts:List eM}{vs:List Value}{i:Nat}{t:eM}(h:ju ty w B (.slice (some ⟨g,0,none⟩) n cap) ts vs)(hi:ts[i]?=some t):w.cell? ⟨g,i*3+1,none⟩=some (.int .i64 t.eF)/\w.cell? ⟨g,i*3+2,none⟩=some (.int .i64 t.fI)/\w.frozen? ⟨g,i*3+2,none⟩=false/\g<w.heap.size:=by
 obtain ⟨v,hv⟩:∃ v,vs[i]?=some v:=⟨_,aA (by rw [h.1];exact (aB.1 hi).1)⟩;have key:∀ j x,(sU t v)[j]?=some x->w.cell? ⟨g,i*3+j,none⟩=some x:=fun j x hx=>by
  have:=h.2.cells (g:=g) rfl _ _ (Ec ts vs i t v h.1 hi hv j x hx);rw [Go.WideShapes.add_plain,aX] at this;exact this
 obtain ⟨_,h2,cur,h3⟩:=fW h.2 (k:=g) rfl;exact ⟨key 1 _ rfl,key 2 _ rfl,by simp [World.frozen?,h3],h2⟩
theorem Ub(L:Nat)(tv ov:Value)(ts:List eM)(o:List Nat)(w:World)(ht:mo w L tv ts)(hL:L<=w.heap.size)(ho:jA w ov (eI o))(hnd:o.Nodup)(hin:∀ n∈o,n<ts.length)(hts:ts.length<=8)(kP:∀ t∈ts,t.ops.length<=200) :
  Calls Tryz.prog 26 #[tv,ov] w (yVv w ts o):=by
 obtain ⟨ta,gL,rfl,Nd,AN⟩:=fV.slice ht;obtain ⟨KW,hvl,SF,SE,hv1⟩:=mo.flat ht;obtain ⟨x0,xi,xz0,xz1,xz2⟩:=info_parts Tryz.Hn;have hol:o.length<=8:=by
  have:=dE hnd (l₂:=List.range ts.length) (fun x hx=>bZ.2 (hin x hx));simp at this;omega
 have BR:=dq ho;obtain ⟨oa,oH,rfl,Nz,AU,tC⟩:=ho;have Fs:=dq tC;have HVC:=dq SF;have Pk:=dq SE;have qM:=dq (zRw ts KW hv1);have uV:=dq (Uu ts KW hvl);have HVL:=dq hvl;have nr:=dq hnd;have mY:=dq hin;have vm:=dq kP;have zF:=dq (EM o);have h63:ts.length<=maxLen:=by unfold maxLen;omega
 have h47:ts.length*40<=140737488355328:=by omega
 unfold maxLen at AN AU;have hoI:((eI o).length:Int)<=8:=by have:=EM o;omega
 clear ht SF SE hv1 hvl hnd hin kP tC;go_enter Tryz.func26,Tryz.ntmps26;go_wp2_with (first
  | (at_builtin;(refine zTc (w0:=w) rfl _ _ 29 rfl 46 x0 _ 3 40 Tryz.underlying29 xi xz0 xz1 xz2 rfl (by omega) yAe rfl ta ts.length gL (nj ts KW) rfl uV.out HVC.out qM.out h63 h47 ?_))
  | fail)
 intro gx fF wa hrx IL;have hgx:=(fW hrx (k:=gx) rfl).1;have Ke:ts.length<=fF/\fF<=maxLen:=by
  rcases hrx.2 with ⟨e,_⟩ | ⟨_,_,_,e,_,_,h1,h2,_⟩
  ·cases e
  ·simp only [Value.slice.injEq] at e;rw [e.2.2];exact ⟨h1,h2⟩
 have FY:ju 46 wa 0 (.slice (some ⟨gx,0,none⟩) ts.length fF) (iL ts o 0) KW:=by rw [yPi];exact ⟨HVL.out,uL hrx (aT _)⟩
 have CS:=dq FY;have CW:=dq IL;unfold maxLen at Ke;clear FY hrx IL qM uV HVC h63 h47;go_wp2_with fail;go_loopw [17] (fun i wr=>∃ j:Nat,j<=ts.length/\i=.int .i64 j/\ju 46 wr 0 (.slice (some ⟨gx,0,none⟩) ts.length fF) (iL ts o j) KW/\Bb ts o j/\Mod dZ w wr) (fun i _=>ts.length - (intOf i).toNat)
 case atStart=>exact ⟨0,aT _,rfl,CS.out,fun i t h=>by omega,CW.out⟩
 case round=>
  obtain ⟨j,hj,rfl,hR,hO,hM⟩:=hrel;clear CS CW;obtain ⟨wk,hwk⟩:∃ q,q=wr:=⟨_,rfl⟩;subst hwk;by_cases hlt:j<ts.length
  ·have jd:(j:Int)<(ts.length:Int):=by omega
   have lJ:(0:Int)<=(j:Int):=by omega
   obtain ⟨t,ht⟩:∃ t,ts[j]?=some t:=⟨_,aA hlt⟩;have YF:(iL ts o j)[j]?=some t:=by rw [yf ht,aK (by omega)]
   obtain ⟨c1,c2,f2,zx⟩:=hR.cell' YF;have HR:=dq hR;have HO:=dq hO;have HM:=dq hM;have HT:=dq ht;have HCJ:=dq YF;clear hR hO hM ht YF;go_wp2_with fail;go_loopw [7,22] (fun b p0 wx=>∃ p:Nat,p<=(eI o).length/\p0=.int .i64 p/\b=.bool (decide (j∈o.take p))/\wk=wx) (fun _ p0 _=>(eI o).length - (intOf p0).toNat)
   case atStart=>exact ⟨0,aT _,rfl,by simp,rfl⟩
   case round=>
    obtain ⟨p,hp,rfl,rfl,rfl⟩:=hrel;by_cases CC:p<(eI o).length
    ·have hpo:p<o.length:=by have:=zF.out;omega
     obtain ⟨n,hn⟩:∃ n,o[p]?=some n:=⟨_,aA hpo⟩;have sW:(eI o)[p]?=some (n:Int):=by unfold eI;rw [aa,hn];rfl
     rcases Fs.out with e | ⟨ob,off,rfl,hcl⟩
     ·rw [e] at CC;simp at CC
     have q0:=HM.out.cell (hcl p (n:Int) sW) id;have hpI:(p:Int)<((eI o).length:Int):=by omega
     have hp0:(0:Int)<=(p:Int):=by omega
     have sC:o.take (p+1)=o.take p++[n]:=by
      rw [au hpo];rw [aA hpo] at hn;simp at hn;rw [hn]
     have xA:=dq sC;clear hn sW hcl sC;by_cases hin:j∈o.take p
     ·rw [aQ hin];go_wp2_with fail;go_roundw
      case rel=>exact ⟨p+1,by omega,by go_num,by rw [aQ (by rw [xA.out];simp [hin])],by trivial⟩
      case measure=>simp [intOf];omega
     ·rw [aL hin];by_cases XU:n=j
      ·subst XU;go_wp2_with fail;go_roundw
       case rel=>exact ⟨p+1,by omega,by go_num,by rw [aQ (by rw [xA.out];simp)],by trivial⟩
       case measure=>simp [intOf];omega
      ·have hnb:((n:Int) == (j:Int))=false:=by simp;omega
       go_wp2_with fail;go_roundw
       case rel=>exact ⟨p+1,by omega,by go_num,by rw [aL (by rw [xA.out];simp [hin];omega)],by trivial⟩
       case measure=>simp [intOf];omega
    ·have hpe:o.take p=o:=by have:=zF.out;rw [bL (by omega)]
     rw [hpe];clear hpe;by_cases hin:j∈o
     ·rw [aQ hin];have HC:Hid (iL ts o j=iL ts o (j+1)):=yDm HT.out (.inl hin);have Zh:=dq (HO.out.stay HT.out (.inl hin));clear hin;go_wp2_with fail;go_roundw
      case rel=>exact ⟨j+1,by omega,by go_num,by rw [<-HC.out];exact HR.out,Zh.out,HM.out⟩
      case measure=>simp [intOf];omega
     ·rw [aL hin];by_cases htl:0<=t.fI
      ·have hd:decide (t.fI ≥ 0)=true:=aQ htl;go_wp2_with fail;go_loopw [45] (fun p0 wx=>∃ p:Nat,p<=(eI o).length/\p0=.int .i64 p/\(∀ (q k:Nat) u,q<p->o[q]?=some k->ts[k]?=some u->¬ t.fI<u.eF)/\ju 46 wx 0 (.slice (some ⟨gx,0,none⟩) ts.length fF) (iL ts o j) KW/\Mod dZ w wx) (fun p0 _=>(eI o).length - (intOf p0).toNat)
       case atStart=>exact ⟨0,aT _,rfl,fun q k u h=>by omega,HR.out,HM.out⟩
       case round=>
        obtain ⟨p,hp,rfl,hall,YX,hMz⟩:=hrel;obtain ⟨wz,hwz⟩:∃ q,q=wr:=⟨_,rfl⟩;subst hwz;obtain ⟨_,Sl,f2',zx'⟩:=YX.cell' HCJ.out;have ZX:=dq YX;have vt:=dq hall;have Sy:=dq hMz;clear hall YX hMz;by_cases CC:p<(eI o).length
        ·have hpo:p<o.length:=by have:=zF.out;omega
         obtain ⟨n,hn⟩:∃ n,o[p]?=some n:=⟨_,aA hpo⟩;have sW:(eI o)[p]?=some (n:Int):=by unfold eI;rw [aa,hn];rfl
         have hnl:=mY.out n (aC hn);obtain ⟨u,hu⟩:∃ u,ts[n]?=some u:=⟨_,aA hnl⟩;rcases Fs.out with e | ⟨ob,off,rfl,hcl⟩
         ·rw [e] at CC;simp at CC
         have q0:=Sy.out.cell (hcl p (n:Int) sW) id;obtain ⟨u',hu',huf⟩:∃ u',(iL ts o j)[n]?=some u'/\u'.eF=u.eF:=⟨_,yf hu,by split <;> rfl⟩;have d1:=(ZX.out.cell' hu').1;rw [huf] at d1;have hpI:(p:Int)<((eI o).length:Int):=by omega
         have hp0:(0:Int)<=(p:Int):=by omega
         have OG:(n:Int)<(ts.length:Int):=by omega
         have hn0:(0:Int)<=(n:Int):=by omega
         have yO:=dq hn;have Pm:=dq hu;clear hn sW hcl hu hu' huf f2';by_cases gI:t.fI<u.eF
         ·have Xz:decide (t.fI<u.eF)=true:=aQ gI;have kS:Hid (¬ ∃ s2,iW ts [] jh o=some s2):=fun h=>by
           have h1:=((Uc nr.out).2 h).1;exact h1 j t hlt HT.out hin htl n (aC yO.out) u Pm.out gI
          go_upto_region 15 with fail;go_quiet (fail);go_wp2_with fail;go_ret;exact ⟨Sy.out.drewN _,false,rfl,⟨fun e=>by simp at e,fun e=>absurd e kS.out⟩⟩
         ·have Xz:decide (t.fI<u.eF)=false:=aL gI;have Qa:Hid (∀ (q k:Nat) u,q<p+1->o[q]?=some k->ts[k]?=some u->¬ t.fI<u.eF):=fun q k v hq hk hv=>by
           by_cases e:q=p
           ·subst e;rw [yO.out] at hk;simp at hk;subst hk;rw [Pm.out] at hv;simp at hv;subst hv;exact gI
           ·exact vt.out q k v (by omega) hk hv
          go_upto_region 15 with fail;go_quiet (fail);go_wp2_with fail;go_roundw
          case rel=>exact ⟨p+1,by omega,by go_num,Qa.out,ZX.out.mod ((Mod.refl dZ wz).drewN _) (fun _ _=>id),Sy.out.drewN _⟩
          case measure=>simp [intOf];omega
        ·have sX:=ZX.out.ux (yj ts o j).symm HCJ.out (-1);rw [yPj HT.out hin htl] at sX;have zE:=dq sX;have HO5:Hid (Bb ts o (j+1)):=HO.out.more HT.out (fun q k u hq hu=>vt.out q k u (by have:=zF.out;have:=(aB.1 hq).1;omega) hq hu);have kv:Hid (Mod dZ w (wz.setCell ⟨gx,j*3+2,none⟩ (.int .i64 (-1)))):=Sy.out.setCell (p:=⟨gx,j*3+2,none⟩) (fun h=>by simp at h;omega) _;clear sX;go_wp2_with fail;go_roundw
         case rel=>exact ⟨j+1,by omega,by go_num,zE.out,HO5.out,kv.out⟩
         case measure=>simp [intOf];omega
      ·have hd:decide (t.fI ≥ 0)=false:=aL htl;have HC:Hid (iL ts o j=iL ts o (j+1)):=yDm HT.out (.inr htl);have Zh:=dq (HO.out.stay HT.out (.inr htl));go_wp2_with fail;go_roundw
       case rel=>exact ⟨j+1,by omega,by go_num,by rw [<-HC.out];exact HR.out,Zh.out,HM.out⟩
       case measure=>simp [intOf];omega
  ·obtain rfl:j=ts.length:=by omega
   have hXV:mo wk wk.heap.size (.slice (some ⟨gx,0,none⟩) ts.length fF) (iL ts o ts.length):=by
    have h:=hR;have hl:(iL ts o ts.length).length=ts.length:=yj _ _ _;refine h.mB (aF _) (fun i t v hi hv=>?_);obtain ⟨t0,ht0,rfl⟩:=Lr hi;obtain ⟨k1,k2,k3⟩:=Pk.out i t0 v ht0 hv;have k4:=(k1.mod hM (fun _ _=>id)).up' (aJ hL hM.size);split
    ·exact ⟨k4,k2,by simp [gO]⟩
    ·exact ⟨k4,k2,k3⟩
   have QS:=dq (yCz wk.heap.size _ _ (iL ts o ts.length) o wk hXV (aF _) (BR.out.mod hM) nr.out (fun n hn=>by rw [yj];exact mY.out n hn) (by rw [yj];exact hts) (fun t ht=>by
    obtain ⟨i,hi,e⟩:=cR ht;obtain ⟨t0,ht0,h2⟩:=Lr (ts:=ts) (o:=o) (j:=ts.length) (i:=i) (t':=t) (by rw [aA hi,e]);have h3:=vm.out t0 (aC ht0);rw [h2];split <;> exact h3))
   have HO:=dq hO;have HM:=dq hM;clear hR hO hM hXV;go_wp2_with fail;refine QS.out.mono ?_;rintro e w5 ⟨eP,b,rfl,hb⟩;have HB:Hid (b=true↔∃ s2,iW ts [] jh o=some s2):=by
    rw [Hid,hb];exact ⟨fun h=>(Uc nr.out).1 ⟨HO.out,(Ls nr.out).2 h⟩,fun h=>(Ls nr.out).1 ((Uc nr.out).2 h).2⟩
   have kv:=dq (HM.out.trans eP);clear hb eP;go_wp2_with fail;go_ret;exact ⟨kv.out,b,rfl,HB.out⟩
theorem zQl(g:Nat)(a:Option Addr)(c:Nat)(ty:TypeId)(w:World):(Builtin.append_ #[26,26] ty #[.slice (some ⟨g,0,none⟩) 0 0,.slice a 0 c]).run Tryz.prog w=.ok (.slice (some ⟨g,0,none⟩) 0 0) w:=by
 cases a <;> kernel_rfl
theorem yDo(W:World)(B g0:Nat)(hE:W.ownsRow B 3 1 (.slice (some ⟨g0,0,none⟩) 0 0) 0 [])(hB:B<=W.heap.size)(ns:List Int)(a:Option Addr)(cap:Nat)(hv:jA W (.slice a ns.length cap) ns)(hl:ns.length<=1000)(ty:TypeId) :
  ∃ g c W',(Builtin.append_ #[26,26] ty #[.slice (some ⟨g0,0,none⟩) 0 0,.slice a ns.length cap]).run Tryz.prog W=.ok (.slice (some ⟨g,0,none⟩) ns.length c) W'/\W'.ownsRow B 3 1 (.slice (some ⟨g,0,none⟩) ns.length c) ns.length (ns.map (Value.int .i64))/\Mod (eA g0) W W':=by
 obtain ⟨i0,hi,hz0,hz1,hz2⟩:=info_parts Tryz.info3;by_cases h0:ns.length=0
 ·have hn:ns=[]:=aR h0;subst hn;exact ⟨g0,0,W,zQl g0 a cap ty W,hE,Mod.refl _ _⟩
 ·obtain ⟨a',cap',e1,_,_,h4⟩:=hv;simp only [Value.slice.injEq] at e1;obtain ⟨rfl,_,rfl⟩:=e1;rcases h4 with h4 | ⟨b,off,rfl,hc⟩
  ·rw [h4] at h0;simp at h0
  obtain ⟨v',w',hr,hown,hgrow,hnil,_⟩:=run_append_own_at (P:=Tryz.prog) W B 26 ty 3 i0 _ 1 8 Tryz.underlying26 hi hz0 hz1 hz2 rfl (by omega) _ _ _ hE ⟨b,off,none⟩ ns.length cap (ns.map (Value.int .i64)) (by simp) (fun j u hu=>by
   rw [aa] at hu
   cases hj:ns[j]? with
   | none=>rw [hj] at hu;cases hu
   | some x=>
    rw [hj] at hu;simp only [bK,ae] at hu;rw [<-hu,Go.WideShapes.add_plain];exact hc j x hj) (fun u hu=>by
   obtain ⟨x,_,rfl⟩:=af.1 hu;rfl) (by unfold maxLen;omega) (by omega) hB
  have hm:Mod (eA g0) W w':=(Mod.refl _ W).grown hgrow (fun x hx _=>by simp [Value.ownBlock] at hx;simp only [eA];omega);simp only [aX,aY] at hown;rcases hown.2 with ⟨_,e⟩ | ⟨g,c,cur,rfl,_⟩
  ·exact absurd e h0
  ·exact ⟨g,c,w',hr,hown,hm⟩
theorem yBc(W:World)(B g n c g1:Nat)(xs:List Value)(k:Int)(hR:W.ownsRow B 3 1 (.slice (some ⟨g,0,none⟩) n c) n xs)(hB:B<=W.heap.size)(hc:W.cell? ⟨g1,0,none⟩=some (.int .i64 k))(hn:n<=1000)(ty:TypeId) :
  ∃ a8 c8 W8,(Builtin.append_ #[26,26] ty #[.slice (some ⟨g,0,none⟩) n c,.slice (some ⟨g1,0,none⟩) 1 1]).run Tryz.prog W=.ok (.slice a8 (n+1) c8) W8/\W8.ownsRow B 3 1 (.slice a8 (n+1) c8) (n+1) (xs++[.int .i64 k])/\Mod (eA g) W W8:=by
 obtain ⟨i0,hi,hz0,hz1,hz2⟩:=info_parts Tryz.info3;obtain ⟨v',w',hr,hown,hgrow,_,_⟩:=run_append_own_at (P:=Tryz.prog) W B 26 ty 3 i0 _ 1 8 Tryz.underlying26 hi hz0 hz1 hz2 rfl (by omega) _ _ _ hR ⟨g1,0,none⟩ 1 1 [.int .i64 k] rfl (fun j u hu=>by
  match j,hu with
  | 0,hu=>simp at hu;subst hu;rw [Go.WideShapes.add_plain];exact hc
  | j+1,hu=>simp at hu) (fun u hu=>by simp at hu;subst hu;rfl) (by unfold maxLen;omega) (by omega) hB
 obtain ⟨a8,c8,rfl⟩:=eu hown;exact ⟨a8,c8,w',hr,hown,(Mod.refl _ W).grown hgrow (fun x hx _=>by simp [Value.ownBlock] at hx;simp only [eA];omega)⟩
theorem yo{P:Program}{w w':World}{o:Oper}{a:Act}{s x:Operand}{t:TypeId}{vs vx v:Value}(ho:o.op=.call { callee:=.builtin .append,args:=#[s,x],argTypes:=#[t,t] })(hs:a.eval s=vs)(hx:a.eval x=vx)
  (hr:(Builtin.append_ #[t,t] o.type #[vs,vx]).run P w=.ok v w'):(execOp a.eval o).run P w=.ok (.value v) w':=by
 simp only [execOp,ho,resolve,invoke,builtin,Sem.run_bind,Sem.run_pure,Result.andThen_ok,bz,bW,cM,hs,hx,hr]
structure VB(wk W:World)(v:Value)(o:List Nat)(k:Nat):Prop where
 ints:jA W v (eI (o++[k]))
 mod:Mod dZ wk W
theorem yIl{wk W:World}{B:Nat}{v:Value}{o:List Nat}{k:Nat}(h:W.ownsRow B 3 1 v ((eI o).length+1) ((eI o).map (Value.int .i64)++[.int .i64 (k:Int)]))(hm:Mod dZ wk W):VB wk W v o k:=by
 have e:eI (o++[k])=eI o++[(k:Int)]:=by simp [eI]
 refine ⟨?_,hm⟩;rw [e];refine jA.iA (B:=B) ?_;simpa using h
theorem yPr(wk:World)(o:List Nat)(k:Nat)(a:Option Addr)(cap:Nat)(hv:jA wk (.slice a (eI o).length cap) (eI o))(hl:o.length<=8)(g0:Nat)(W:World)(B:Nat)(hW:Mod dZ wk W)(hE:W.ownsRow B 3 1 (.slice (some ⟨g0,0,none⟩) 0 0) 0 [])(hB:B<=W.heap.size)(hkB:wk.heap.size<=B)(ty ty':TypeId) :
  ∃ g c W5 a8 c8 W8,(Builtin.append_ #[26,26] ty #[.slice (some ⟨g0,0,none⟩) 0 0,.slice a (eI o).length cap]).run Tryz.prog W=.ok (.slice (some ⟨g,0,none⟩) (eI o).length c) W5/\Mod dZ wk W5 /\
   (Builtin.append_ #[26,26] ty' #[.slice (some ⟨g,0,none⟩) (eI o).length c,.slice (some ⟨W5.heap.size,0,none⟩) 1 1]).run Tryz.prog (W5.alloc (.cells #[.int .i64 (k:Int)] 3))=.ok (.slice a8 ((eI o).length+1) c8) W8/\VB wk W8 (.slice a8 ((eI o).length+1) c8) o k:=by
 have hol:=EM o;obtain ⟨g,c,W5,r5,o5,m5⟩:=yDo W B g0 hE hB (eI o) a cap (hv.mod hW) (by omega) ty;have hg0:=fW hE (k:=g0) rfl;have eP:Mod dZ wk W5:=hW.trans' m5 (fun i hi e=>by simp only [eA] at e;omega);have FD:=m5.size;have hg:=fW o5 (k:=g) rfl;obtain ⟨a8,c8,W8,r8,o8,m8⟩:=yBc (W5.alloc (.cells #[.int .i64 (k:Int)] 3)) B g _ c W5.heap.size _ (k:Int) (o5.alloc _) (by simp;omega) ((dg.new W5 [.int .i64 (k:Int)] 3).cell 0 rfl) (by omega) ty';exact ⟨g,c,W5,a8,c8,W8,r5,eP,r8,yIl o8 ((eP.alloc _).trans' m8 (fun i hi e=>by simp only [eA] at e;omega))⟩
theorem Rw(wk:World)(o:List Nat)(k:Nat)(a:Option Addr)(cap:Nat)(hv:jA wk (.slice a (eI o).length cap) (eI o))(hl:o.length<=8)(g0 g1:Nat)(W:World)(B:Nat)(hW:Mod dZ wk W)(hE:W.ownsRow B 3 1 (.slice (some ⟨g0,0,none⟩) 0 0) 0 [])(hB:B<=W.heap.size)(hkB:wk.heap.size<=B)(hc:W.cell? ⟨g1,0,none⟩=some (.int .i64 (k:Int)))(hne:g1≠g0)(ty ty':TypeId) :
  ∃ g c W5 a8 c8 W8,(Builtin.append_ #[26,26] ty #[.slice (some ⟨g0,0,none⟩) 0 0,.slice a (eI o).length cap]).run Tryz.prog W=.ok (.slice (some ⟨g,0,none⟩) (eI o).length c) W5/\Mod dZ wk W5 /\
   (Builtin.append_ #[26,26] ty' #[.slice (some ⟨g,0,none⟩) (eI o).length c,.slice (some ⟨g1,0,none⟩) 1 1]).run Tryz.prog W5=.ok (.slice a8 ((eI o).length+1) c8) W8/\VB wk W8 (.slice a8 ((eI o).length+1) c8) o k:=by
 have hol:=EM o;obtain ⟨g,c,W5,r5,o5,m5⟩:=yDo W B g0 hE hB (eI o) a cap (hv.mod hW) (by omega) ty;have hg0:=fW hE (k:=g0) rfl;have eP:Mod dZ wk W5:=hW.trans' m5 (fun i hi e=>by simp only [eA] at e;omega);have hg:=fW o5 (k:=g) rfl;obtain ⟨a8,c8,W8,r8,o8,m8⟩:=yBc W5 B g _ c g1 _ (k:Int) o5 (aJ hB m5.size) (m5.cell hc (by simp only [eA];exact hne)) (by omega) ty';exact ⟨g,c,W5,a8,c8,W8,r5,eP,r8,yIl o8 (eP.trans' m8 (fun i hi e=>by simp only [eA] at e;omega))⟩
theorem yPv(wk:World):Mod dZ wk (wk.alloc (.cells #[] 3)).drew/\(wk.alloc (.cells #[] 3)).drew.ownsRow wk.heap.size 3 1 (.slice (some ⟨wk.heap.size,0,none⟩) 0 0) 0 []/\wk.heap.size<=(wk.alloc (.cells #[] 3)).drew.heap.size:=
 ⟨((Mod.refl _ wk).alloc _).drew,fm (MJ wk _ _) ((Mod.refl dZ _).drew) (fun _ _ _ _=>id),(((Mod.refl dZ wk).alloc (.cells #[] 3)).drew).size⟩
theorem yPu(wk:World)(k:Int):Mod dZ wk ((wk.alloc (.cells #[] 3)).alloc (.cells #[.int .i64 k] 3)).drew/\((wk.alloc (.cells #[] 3)).alloc (.cells #[.int .i64 k] 3)).drew.ownsRow wk.heap.size 3 1 (.slice (some ⟨wk.heap.size,0,none⟩) 0 0) 0 []/\wk.heap.size<=((wk.alloc (.cells #[] 3)).alloc (.cells #[.int .i64 k] 3)).drew.heap.size/\((wk.alloc (.cells #[] 3)).alloc (.cells #[.int .i64 k] 3)).drew.cell? ⟨wk.heap.size+1,0,none⟩=some (.int .i64 k):=by
 have h:=(dg.new (wk.alloc (.cells #[] 3)) [.int .i64 k] 3).cell 0 rfl;rw [World.size_alloc] at h;exact ⟨(((Mod.refl _ wk).alloc _).alloc _).drew,fm (MJ wk _ _) (((Mod.refl dZ _).alloc _).drew) (fun _ _ _ _=>id),((((Mod.refl dZ wk).alloc (.cells #[] 3)).alloc (.cells #[.int .i64 k] 3)).drew).size,h⟩
theorem yPt(wk:World)(k:Int):Mod dZ wk ((wk.alloc (.cells #[.int .i64 k] 3)).alloc (.cells #[] 3)).drew/\((wk.alloc (.cells #[.int .i64 k] 3)).alloc (.cells #[] 3)).drew.ownsRow (wk.heap.size+1) 3 1 (.slice (some ⟨wk.heap.size+1,0,none⟩) 0 0) 0 []/\wk.heap.size+1<=((wk.alloc (.cells #[.int .i64 k] 3)).alloc (.cells #[] 3)).drew.heap.size/\((wk.alloc (.cells #[.int .i64 k] 3)).alloc (.cells #[] 3)).drew.cell? ⟨wk.heap.size,0,none⟩=some (.int .i64 k):=by
 have h:=MJ (wk.alloc (.cells #[.int .i64 k] 3)) 3 1;rw [World.size_alloc] at h;have hz:=(((Mod.refl dZ (wk.alloc (.cells #[.int .i64 k] 3))).alloc (.cells #[] 3)).drew).size;rw [World.size_alloc] at hz;exact ⟨(((Mod.refl _ wk).alloc _).alloc _).drew,fm h ((Mod.refl dZ _).drew) (fun _ _ _ _=>id),hz,(((Mod.refl dZ (wk.alloc (.cells #[.int .i64 k] 3))).alloc (.cells #[] 3)).drew).cell ((dg.new wk [.int .i64 k] 3).cell 0 rfl) id⟩
end Go.Proofs.YtmaiggbnceejiaaGreatDoor
