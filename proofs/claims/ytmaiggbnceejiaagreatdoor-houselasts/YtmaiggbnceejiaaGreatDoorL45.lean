import Derived.Test.YtmaiggbnceejiaaGreatDoorL42
import Derived.Lib.SmallJoins
set_option linter.unusedVariables false
set_option maxRecDepth 100000
set_option maxHeartbeats 16000000
namespace Go.Proofs.YtmaiggbnceejiaaGreatDoor
open Go.RowKit Go.Lib Go.Maps Go.ChangeShapes Go.WideShapes Go.Deep
variable {s s1:gh}{ops:List fm}{k p n:Nat}{o:List Nat}{w:World}{ts:List eY}{t:eY}
theorem RG{us:List (ByteArray×VD)}{o:fm}(h:iJ s (ops.take k)=some (s1,us))(a:ops[k]?=some o):iJ s (ops.take (k+1))=(jQ s1 o).map (λr=>(r.1,us++r.2)):=by
 have b:=(aB.1 a).1;rw[ax b];have:ops[k]=o:=by rw[aA b]at a;simpa using a
 rw[this];exact ZJ _ _ _ _ _ h
theorem yNl{us:List (ByteArray×VD)}{o:fm}(h:iJ s (ops.take k)=some (s1,us))(b:ops[k]?=some o)(c:jQ s1 o=none):iJ s ops=none:=by
 cases a:iJ s ops with
|none=>rfl
|some r=>
  obtain⟨f,d,e⟩:=yAb ops s r.1 r.2 (k+1) a;rw[RG h b,c]at e
  cases e
def Ic(w:World)(ts:List eY)(o:List Nat)(e:Ending)(w':World):Prop:=Mod dt w w'/\∃b:Bool,e=.returned (.bool b)/\(b=true↔(oB ts o/\FQ ts o/\∃a,iM ts jv o=some a))
theorem Ic.no{w':World}(b:Mod dt w w')(h:¬(oB ts o/\FQ ts o/\∃a,iM ts jv o=some a)):Ic w ts o (.returned (.bool false)) w':=⟨b,false,rfl,⟨λe=>by simp at e,λe=>absurd e h⟩⟩
def Kf(ts:List eY)(o:List Nat)(i:Nat)(t:eY)(m:Nat):Prop:=∀(k:Nat) u,k<m->ts[k]?=some u->0<=t.fN->t.fN<u.eP->mD o k 0≠0->¬mD o k 0<mD o i 0
def RZ(ts:List eY)(o:List Nat)(j:Nat):Prop:=∀(i:Nat) t,i<j->ts[i]?=some t->(0<=t.fN->mD o i 0≠0)/\Kf ts o i t ts.length
theorem yXy(h:RZ ts o ts.length):oB ts o/\FQ ts o:=
 ⟨λi t ht h0=>(KJ o i 0).1 ((h i t (aB.1 ht).1 ht).1 h0),λi k t u ht a d c b=>(h i t (aB.1 ht).1 ht).2 k u (aB.1 a).1 a d c b⟩
theorem RZ.more{j:Nat}(h:RZ ts o j)(ht:ts[j]?=some t)(d:0<=t.fN->mD o j 0≠0)(c:Kf ts o j t ts.length):RZ ts o (j+1):=λi b f a=>by
 by_cases e:i=j
 .subst e;rw[ht]at a;simp at a;subst a;exact⟨d,c⟩
 .exact h i b (by omega) a
theorem Kf.more{i m:Nat}{u:eY}(h:Kf ts o i t m)(j:ts[m]?=some u)(l:¬(0<=t.fN/\t.fN<u.eP/\mD o m 0≠0/\mD o m 0<mD o i 0)):Kf ts o i t (m+1):=λk g q a f d c b=>by
 by_cases e:k=m
 .subst e;rw[j]at a;simp at a;subst a;exact l ⟨f,d,c,b⟩
 .exact h k g (by omega) a f d c b
theorem yDo(c:iM ts jv (o.take p)=some s1)(b:o[p]?=some n)(ht:ts[n]?=some t):iM ts jv (o.take (p+1))=(iJ s1 t.ops).map (·.1):=by
 obtain⟨a,e⟩:=aB.1 b;rw[ax a,e,yBd,c];simp only[cK];rw[iM,ht];simp only
 cases iJ s1 t.ops with
|none=>rfl
|some r=>rfl
theorem yPv(d:iM ts jv (o.take p)=some s1)(c:o[p]?=some n)(ht:ts[n]?=some t)(e:iJ s1 t.ops=none):¬∃a,iM ts jv o=some a:=λ⟨a,h⟩=>by
 have b:=yDo d c ht;rw[e]at b;rw[<-ar (p+1) o,yBd,b]at h
 cases h
theorem yFk(L:Nat)(tv ov:Value)(ts:List eY)(o:List Nat)(w:World)(ht:nz w L tv ts)(hL:L<=w.heap.size)(ho:kF w ov (ee o))(Z:o.Nodup)(hin:∀n∈o,n<ts.length)(hts:ts.length<=8)(je:∀t∈ts,t.ops.length<=200) :
  Calls Tryz.prog 25 #[tv,ov] w (Ic w ts o):=by
 obtain⟨ta,gz,rfl,SV,Cl⟩:=gD.slice ht;have hol:o.length<=8:=by
  have:=dK Z (l₂:=List.range ts.length) (λx hx=>bV.2 (hin x hx));simp at this;omega
 obtain⟨oa,jL,rfl,Sp,Cv,uf⟩:=ho;have hmk:=yVj w ts.length (by omega);have K:=yUj w ts.length (by omega);obtain⟨w1,hw1⟩:∃q,q=w.alloc (.cells (madeCells #[.int .i64 0] ts.length) 3):=⟨_,rfl⟩;rw[<-hw1]at hmk K;have dy:Mod dt w w1:=by rw[hw1];exact(Mod.refl _ w).alloc _
 have HT:=eC ht;have Js:=eC uf;have qv:=eC Z;have pH:=eC hin;have Bl:=eC (IL o);have Dm:=eC je;have Jr:=eC K;have fh:=eC dy;unfold maxLen at Cl Cv;have hoI:((ee o).length:Int)<=8:=by have:=IL o;omega
 clear ht uf Z hin je K dy hw1;go_enter Tryz.func25,Tryz.ntmps25;go_wp2_with fail;go_loopw [24] (λi wr=>∃p:Nat,p<=(ee o).length/\i=.int .i64 p/\wr.ownsRow w.heap.size 3 1 (.slice (some ⟨w.heap.size,0,none⟩) ts.length ts.length) ts.length (ld (o.take p) ts.length)/\Mod dt w wr) (λi _=>(ee o).length-(intOf i).toNat)
 case atStart=>exact⟨0,aT _,rfl,by simpa using Jr.out,fh.out⟩
 case round=>
  obtain⟨p,hp,rfl,B,r⟩:=hrel;clear Jr fh hmk;by_cases hlt:p<(ee o).length
  .have M:p<o.length:=by have:=Bl.out;omega
   obtain⟨n,hn⟩:∃n,o[p]?=some n:=⟨_,aA M⟩;have uA:(ee o)[p]?=some (n:Int):=by unfold ee;rw[ah,hn];rfl
   have N:=pH.out n (aC hn);have Y:n∉o.take p:=λhm=>by
    obtain⟨j,hj,e⟩:=cU hm;rw[List.getElem_take]at e;have hj':j<p:=by simp at hj;omega
    obtain⟨p1,p2⟩:=aB.1 hn;exact(aq.1 qv.out) j p (by omega) p1 hj' (by rw[e,p2])
   obtain e|⟨ob,off,rfl,O⟩:=Js.out
   .rw[e]at hlt;simp at hlt
   have q0:=r.cell (O p (n:Int) uA) id;have hz:mD (o.take p) n 0=0:=by
    by_cases e:mD (o.take p) n 0=0
    .exact e
    .exact absurd ((KJ _ _ _).1 e) Y
   have q1:=Vk B (KL (o.take p) N);rw[hz]at q1;obtain⟨f1,z1⟩:=Za B n;have jq:(p:Int)<((ee o).length:Int):=by omega
   have mT:(0:Int)<=(p:Int):=by omega
   have Sy:(n:Int)<(ts.length:Int):=by omega
   have hn0:(0:Int)<=(n:Int):=by omega
   have hp8:(p:Int)<=1000:=by omega
   have y:(o.take p).length=p:=by rw[af];omega
   have tR:o.take (p+1)=o.take p++[n]:=by
    rw[ax M];rw[aA M]at hn;simp at hn;rw[hn]
   have hR':=yUi B N (.int .i64 ((p:Int)+1));rw[show((p:Int)+1)=(((o.take p).length:Nat):Int)+1 by rw[y],yUk N Y,<-tR,y]at hR';have hM':Mod dt w (wr.setCell ⟨w.heap.size,n,none⟩ (.int .i64 ((p:Int)+1))):=LC (Mod.put (r.mono (G':=jw w.heap.size) (λ_ _ e=>e.elim)) w.heap.size n (aD _) _);have YR:=eC hR';have HM':=eC hM';clear B r hR' hM' hn uA Y hz O tR y;go_wp2_with fail;go_roundw
   case rel=>exact⟨p+1,by omega,by go_num,YR.out,HM'.out⟩
   case measure=>simp[intOf];omega
  .have T:o.take p=o:=by have:=Bl.out;rw[bM (by omega)]
   rw[T]at B;have HR:=eC B;have HM:=eC r;clear B r T;go_wp2_with fail;go_loopw [52] (λi wr=>∃k:Nat,k<=ts.length/\i=.int .i64 k/\wr.ownsRow w.heap.size 3 1 (.slice (some ⟨w.heap.size,0,none⟩) ts.length ts.length) ts.length (ld o ts.length)/\RZ ts o k/\Mod dt w wr) (λi _=>ts.length-(intOf i).toNat)
   case atStart=>exact⟨0,aT _,rfl,HR.out,λi t h=>by omega,HM.out⟩
   case round=>
    clear HR HM;obtain⟨k,hk,rfl,B,hRO,r⟩:=hrel;have Uo:=eC hRO;clear hRO;obtain⟨wk,hwk⟩:∃q,q=wr:=⟨_,rfl⟩;subst hwk;by_cases wy:k<ts.length
    .obtain⟨t,ht⟩:∃t,ts[k]?=some t:=⟨_,aA wy⟩;obtain⟨b,off,xv,rfl,hbL,AW,C,q0,q1,q2⟩:=HT.out.at ht;obtain⟨xa,fY,rfl,_⟩:=gD.slice AW;have V:=r.cell q0 id;have q1':=r.cell q1 id;have q2':=r.cell q2 id;have jq:(k:Int)<(ts.length:Int):=by omega
     have mT:(0:Int)<=(k:Int):=by omega
     obtain⟨w3,hw3⟩:∃q,q=wk.alloc (.cells #[.slice xa t.ops.length fY,.int .i64 t.eP,.int .i64 t.fN] 46):=⟨_,rfl⟩;have eK:Mod dt wk w3:=by rw[hw3];exact(Mod.refl _ wk).alloc _
     have I:dx w3 wk.heap.size [.slice xa t.ops.length fY,.int .i64 t.eP,.int .i64 t.fN] 46:=by rw[hw3];exact dx.new wk _ _
     have Bh:=gO B eK (λ_ _ _ _=>id);have r1:=Vk Bh (KL o wy);obtain⟨f1,z1⟩:=Za Bh k;have x2:=I.cell 2 rfl;have z3:=I.lt;have Dk:=eC Bh;have rh:=eC I;have G:=eC (r.trans eK);have Jp:=eC ht;clear B r AW C q0 q1 q2 ht eK I Bh;go_upto_region 12 with fail;rw[<-hw3];clear hw3 V q1' q2';obtain⟨UT,MJ⟩:∃q:Int,q=((mD o k 0:Nat):Int):=⟨_,rfl⟩;rw[<-MJ]at r1;have VU:=eC MJ;clear MJ;go_cut [66] (λv wc=>v=.bool (decide (0<=t.fN/\UT=0))/\wc=w3)
     case first=>
      by_cases y:0<=t.fN
      .have hd:decide (t.fN ≥ 0)=true:=aQ y;by_cases XM:UT=0
       .have XN:(UT==0)=true:=by simpa using XM
        clear XM;go_wp2_with fail;go_meet
        case rel=>exact⟨by rw[aQ ⟨y,by simpa using XN⟩],rfl⟩
       .have XN:(UT==0)=false:=by simpa using XM
        clear XM;go_wp2_with fail;go_meet
        case rel=>exact⟨by rw[aN (λh=>by rw[h.2]at XN;simp at XN)],rfl⟩
      .have hd:decide (t.fN ≥ 0)=false:=aN y;go_wp2_with fail;go_meet
       case rel=>exact⟨by rw[aN (by omega)],rfl⟩
     case rest=>
      obtain⟨GG,hwc⟩:=hcut;clear r1 f1 x2;rw[hwc];clear hwc;by_cases a:0<=t.fN/\UT=0
      .rw[aQ a]at GG;subst GG;have yb:Hid (¬oB ts o):=λh=>by
        have P:=(KJ o k 0).2 (h k t Jp.out a.1);have E:=VU.out;have h3:=a.2;omega
       clear a;go_wp2_with fail;go_ret;exact Ic.no G.out (λh=>yb.out h.1)
      rw[aN a]at GG;subst GG;have vP:Hid (0<=t.fN->mD o k 0≠0):=λh e=>a ⟨h,by have:=VU.out;omega⟩;clear a;go_wp2_with fail;go_loopw [69] (λi Q=>∃m:Nat,m<=ts.length/\i=.int .i64 m/\Q.ownsRow w.heap.size 3 1 (.slice (some ⟨w.heap.size,0,none⟩) ts.length ts.length) ts.length (ld o ts.length)/\dx Q wk.heap.size [.slice xa t.ops.length fY,.int .i64 t.eP,.int .i64 t.fN] 46/\Kf ts o k t m/\Mod dt w Q) (λi _=>ts.length-(intOf i).toNat)
      case atStart=>exact⟨0,aT _,rfl,Dk.out,rh.out,λi u h=>by omega,G.out⟩
      case round=>
       clear Dk rh G;obtain⟨m,hm,rfl,B,hB,hRW,r⟩:=hrel;have FG:=eC hRW;clear hRW;by_cases TI:m<ts.length
       .obtain⟨u,hu⟩:∃u,ts[m]?=some u:=⟨_,aA TI⟩;obtain⟨b',off',uv,hab,_,SR,_,u0,u1,u2⟩:=HT.out.at hu;obtain⟨ya,RR,rfl,_⟩:=gD.slice SR;simp only[ag,Addr.mk.injEq]at hab;obtain⟨rfl,rfl,_⟩:=hab;have u0':=r.cell u0 id;have u1':=r.cell u1 id;have u2':=r.cell u2 id;have hmI:(m:Int)<(ts.length:Int):=by omega
        have hm0:(0:Int)<=(m:Int):=by omega
        obtain⟨w5,oH⟩:∃q,q=wr.alloc (.cells #[.slice ya u.ops.length RR,.int .i64 u.eP,.int .i64 u.fN] 46):=⟨_,rfl⟩;have fA:Mod dt wr w5:=by rw[oH];exact(Mod.refl _ wr).alloc _
        have xM:dx w5 wr.heap.size [.slice ya u.ops.length RR,.int .i64 u.eP,.int .i64 u.fN] 46:=by rw[oH];exact dx.new wr _ _
        have uB:=gO B fA (λ_ _ _ _=>id);have Xo:=hB.mod fA id;have rk:=Vk uB (KL o wy);have rm:=Vk uB (KL o TI);obtain⟨fk,zk⟩:=Za uB k;have y1:=xM.cell 1 rfl;have y2:=Xo.cell 2 rfl;have z5:=xM.lt;have zt:=Xo.lt;have Bk:=eC uB;have HBt:=eC Xo;have mH:=eC (r.trans fA);have HUM:=eC hu;clear B hB r SR u0 u1 u2 hu fA xM uB Xo;go_upto_region 17 with fail;rw[<-oH];clear oH u0' u1' u2';obtain⟨am,XY⟩:∃q:Int,q=((mD o m 0:Nat):Int):=⟨_,rfl⟩;obtain⟨ak,hak⟩:∃q:Int,q=((mD o k 0:Nat):Int):=⟨_,rfl⟩;rw[<-XY]at rm;rw[<-hak]at rk;have HAM:=eC XY;have HAK:=eC hak;clear XY hak;go_cut [101] (λv wc=>v=.bool (decide (0<=t.fN/\t.fN<u.eP/\am > 0/\am<ak))/\Mod dt w5 wc)
        case first=>
         by_cases y:0<=t.fN
         .have hd1:decide (t.fN ≥ 0)=true:=aQ y;by_cases gE:t.fN<u.eP
          .have hd2:decide (t.fN<u.eP)=true:=aQ gE;by_cases Cu:am > 0
           .have hd3:decide (am > 0)=true:=aQ Cu;by_cases X:am<ak
            .have hd4:decide (am<ak)=true:=aQ X;go_quiet (fail);go_wp2_with fail;go_meet
             case rel=>exact⟨by rw[aQ ⟨y,gE,Cu,X⟩],(Mod.refl dt w5).drewN _⟩
            .have hd4:decide (am<ak)=false:=aN X;go_quiet (fail);go_wp2_with fail;go_meet
             case rel=>exact⟨by rw[aN (by omega)],(Mod.refl dt w5).drewN _⟩
           .have hd3:decide (am > 0)=false:=aN Cu;go_quiet (fail);go_wp2_with fail;go_meet
            case rel=>exact⟨by rw[aN (by omega)],(Mod.refl dt w5).drewN _⟩
          .have hd2:decide (t.fN<u.eP)=false:=aN gE;go_quiet (fail);go_wp2_with fail;go_meet
           case rel=>exact⟨by rw[aN (by omega)],(Mod.refl dt w5).drewN _⟩
         .have hd1:decide (t.fN ≥ 0)=false:=aN y;go_quiet (fail);go_wp2_with fail;go_meet
          case rel=>exact⟨by rw[aN (by omega)],(Mod.refl dt w5).drewN _⟩
        case rest=>
         obtain⟨zI,MQ⟩:=hcut;by_cases a:0<=t.fN/\t.fN<u.eP/\am > 0/\am<ak
         .rw[aQ a]at zI;subst zI;have Ux:Hid (¬FQ ts o):=λh=>by
           have P:=HAM.out;have E:=HAK.out;exact h k m t u Jp.out HUM.out a.1 a.2.1 (by have:=a.2.2.1;omega) (by have:=a.2.2.2;omega)
          have FL:=eC (mH.out.trans MQ);clear a MQ rk rm y1 y2 fk;go_wp2_with fail;go_ret;exact Ic.no FL.out (λh=>Ux.out h.2.1)
         rw[aN a]at zI;subst zI;have Up:Hid (Kf ts o k t (m+1)):=FG.out.more HUM.out (λh=>a ⟨h.1,h.2.1,by have:=HAM.out;have:=h.2.2.1;omega,by have:=HAM.out;have:=HAK.out;have:=h.2.2.2;omega⟩);clear a;have HRC:=eC (gO Bk.out MQ (λ_ _ _ _=>id));have HBC:=eC (HBt.out.mod MQ id);have FL:=eC (mH.out.trans MQ);clear MQ rk rm y1 y2 fk;go_wp2_with fail;go_roundw
         case rel=>exact⟨m+1,by omega,by go_num,HRC.out,HBC.out,Up.out,FL.out⟩
         case measure=>simp[intOf];omega
       .have HR:=eC B;have HM:=eC r;clear B hB r;go_wp2_with fail;go_roundw
        case rel=>exact⟨k+1,by omega,by go_num,HR.out,Uo.out.more Jp.out vP.out (by have h:=FG.out;rwa [show m=ts.length by omega]at h),HM.out⟩
        case measure=>simp[intOf];omega
    .have FF:Hid (oB ts o/\FQ ts o):=yXy (by have h:=Uo.out;rwa [show k=ts.length by omega]at h);have hmm:=@run_makeMap Tryz.prog;obtain⟨wj,JJ⟩:∃q,q=wk.alloc (.map #[] 0):=⟨_,rfl⟩;have UB:mg wj wk.heap.size 0 jv:=by
      rw[JJ];exact⟨.map [],B2 wk Tryz.prog 9 (plainElem Tryz.prog 9),λk _=>⟨rfl,λh=>by simp[jv,AB]at h⟩⟩
     have hmj:Mod dt w wj:=by rw[JJ];exact r.alloc _
     have HN0:=eC UB;have HMJ:=eC hmj;have XE:=r.size;clear B r UB hmj;go_upto_region 22 with fail;rw[<-JJ];clear JJ;go_wp2_with fail;go_loopw [107] (λi Q=>∃(p R:Nat) (s1:gh),p<=(ee o).length/\i=.int .i64 p/\iM ts jv (o.take p)=some s1/\Ff s1/\mg Q wk.heap.size R s1/\R<=200*p/\Mod dt w Q) (λi _=>(ee o).length-(intOf i).toNat)
     case atStart=>exact⟨0,0,jv,aT _,rfl,rfl,yPi,HN0.out,by omega,HMJ.out⟩
     case round=>
      clear HN0 HMJ hmm;obtain⟨p,R,s1,hp,rfl,hg1,htd,pW,Bd,oo⟩:=hrel;have HTD:=eC htd;have HG1:=eC hg1;clear htd;obtain⟨wp,hwp⟩:∃q,q=wr:=⟨_,rfl⟩;subst hwp;by_cases TH:p<(ee o).length
      .have M:p<o.length:=by have:=Bl.out;omega
       obtain⟨n,hn⟩:∃n,o[p]?=some n:=⟨_,aA M⟩;have uA:(ee o)[p]?=some (n:Int):=by unfold ee;rw[ah,hn];rfl
       have N:=pH.out n (aC hn);obtain⟨t,ht⟩:∃t,ts[n]?=some t:=⟨_,aA N⟩;have hlo:=Dm.out t (aC ht);obtain e|⟨ob,off,rfl,O⟩:=Js.out
       .rw[e]at TH;simp at TH
       obtain⟨b,toff,xv,rfl,hbL,AW,C,q0,q1,q2⟩:=HT.out.at ht;obtain⟨xa,fY,rfl,hxc1,hxc2⟩:=gD.slice AW;have c0:=oo.cell (O p (n:Int) uA) id;have V:=oo.cell q0 id;have jq:(p:Int)<((ee o).length:Int):=by omega
       have mT:(0:Int)<=(p:Int):=by omega
       have Sy:(n:Int)<(ts.length:Int):=by omega
       have hn0:(0:Int)<=(n:Int):=by omega
       unfold maxLen at hxc2;have Av:=eC hn;have HTT:=eC ht;have HOPV:=eC AW;have Bm:=eC pW;have fh:=eC oo;clear hg1 AW pW oo hn uA ht O q0 q1 q2 C;go_wp2_with fail;go_loopw [117] (λi Q=>∃(j:Nat) (z:gh) (F:List (ByteArray×VD)),j<=t.ops.length/\i=.int .i64 j/\iJ s1 (t.ops.take j)=some (z,F)/\mg Q wk.heap.size (R+j) z/\Mod dt w Q) (λi _=>t.ops.length-(intOf i).toNat)
       case atStart=>exact⟨0,s1,[],aT _,rfl,by simp[iJ],Bm.out,fh.out⟩
       case round=>
        clear Bm fh c0 V;obtain⟨j,z,F,hj,rfl,Tg,hN,r⟩:=hrel;by_cases hlt5:j<t.ops.length
        .obtain⟨g,d,c,f,ho⟩:∃g d c f,t.ops[j]?=some ⟨g,d,c,f⟩:=⟨_,_,_,_,aA hlt5⟩;obtain⟨pb,Fu,Lj,hpL,⟨J,W⟩,e0,e1,e2,e3⟩:=HOPV.out.at ho;subst Lj;have J:d.size<=maxLen:=J;have W:c.size<=maxLen:=W;have e0':wr.cell? ⟨pb,Fu+j*4,none⟩=some (.int .i64 g):=r.cell e0 id;have UQ:wr.cell? ⟨pb,Fu+j*4+1,none⟩=some (.string d):=r.cell e1 id;have e2':wr.cell? ⟨pb,Fu+j*4+2,none⟩=some (.string c):=r.cell e2 id;have e3':wr.cell? ⟨pb,Fu+j*4+3,none⟩=some (.bool f):=r.cell e3 id;have MA:(j:Int)<(t.ops.length:Int):=by omega
         have PA:(0:Int)<=(j:Int):=by omega
         obtain⟨w3,hw3⟩:∃q,q=wr.alloc (.cells #[.int .i64 g,.string d,.string c,.bool f] 51):=⟨_,rfl⟩;have eK:Mod dt wr w3:=by rw[hw3];exact(Mod.refl _ wr).alloc _
         have I:dx w3 wr.heap.size [.int .i64 g,.string d,.string c,.bool f] 51:=by rw[hw3];exact dx.new wr _ _
         have sU:=hN.mod eK id;obtain⟨v,l3,wY,hvs⟩:=sU.look J;have x0:=I.cell 0 rfl;have x1:=I.cell 1 rfl;have x2:=I.cell 2 rfl;have x3:=I.cell 3 rfl;have z3:=I.lt;have vz:=eC sU;have G:=eC (r.trans eK);have QQ:=eC Tg;have Ut:=eC ho;have Ub:=eC wY;obtain⟨bt,Tn⟩:∃q,q=(z d).there:=⟨_,rfl⟩;rw[<-Tn]at l3;have QR:=eC Tn;clear Tg hN r ho eK I sU wY Tn e0 e1 e2 e3;go_upto_region 28 with fail;rw[<-hw3];clear hw3 e0' UQ e2' e3';by_cases P:g=1
         .subst P;have HT3:Hid (Ff z):=Zf _ _ _ _ HTD.out QQ.out;have JV:z d≠BK ⟨1,d,c,f⟩->¬∃U,iM ts jv o=some U:=λe=>yPv HG1.out Av.out HTT.out (yNl QQ.out Ut.out (by simp[jQ,e]));have Dz:=eC JV;have JU:z d=BK ⟨1,d,c,f⟩->iJ s1 (t.ops.take (j+1))=some (z,F):=λe=>by
           rw[RG QQ.out Ut.out];simp[jQ,e]
          have Jw:=eC JU;clear JV JU
          cases bt with
         |true=>
           cases f with
          |true=>
            by_cases S:v=c
            .subst S;have H:Hid (iJ s1 (t.ops.take (j+1))=some (z,F)):=Jw.out (by
              have P:=Ub.out QR.out.symm;have E:=QR.out;unfold BK;simp only[if_true];rw[P,E])
             go_wp2_with fail;go_roundw
             case rel=>exact⟨j+1,z,F,by omega,by go_num,H.out,vz.out.mono (by omega),G.out⟩
             case measure=>simp[intOf];omega
            .have hvb:(v.toList==c.toList)=false:=by
              simp only[bp,ne_eq];intro e;rw[B6,B6]at e;exact S (Vo e)
             have kQ:Hid (¬∃U,iM ts jv o=some U):=Dz.out (λe=>by
              have P:=Ub.out QR.out.symm;rw[e]at P;exact S P)
             clear S;go_wp2_with fail;go_ret;exact Ic.no G.out (λh=>kQ.out h.2.2)
          |false=>
            have kQ:Hid (¬∃U,iM ts jv o=some U):=Dz.out (λe=>by
             have E:=QR.out;rw[e]at E;simp[BK,AB]at E)
            go_wp2_with fail;go_ret;exact Ic.no G.out (λh=>kQ.out h.2.2)
         |false=>
           cases f with
          |true=>
            have kQ:Hid (¬∃U,iM ts jv o=some U):=Dz.out (λe=>by
             have E:=QR.out;rw[e]at E;simp[BK]at E)
            go_wp2_with fail;go_ret;exact Ic.no G.out (λh=>kQ.out h.2.2)
          |false=>
            have H:Hid (iJ s1 (t.ops.take (j+1))=some (z,F)):=Jw.out (HT3.out d QR.out.symm);go_wp2_with fail;go_roundw
            case rel=>exact⟨j+1,z,F,by omega,by go_num,H.out,vz.out.mono (by omega),G.out⟩
            case measure=>simp[intOf];omega
         .by_cases E:g=2
          .subst E;obtain⟨D,A,hD⟩:=vz.out;have hmx:R+j<maxLen:=by unfold maxLen;omega
           have Uy:=eC A;have HD:=eC hD;have H:Hid (iJ s1 (t.ops.take (j+1))=some (oS z d ⟨c,true⟩,F++[(d,z d)])):=by
            rw[Hid,RG QQ.out Ut.out];simp[jQ]
           clear A hD;go_wp2_with (first
           |(at_mapUpdate;refine wpList_mapUpdate_own _ rfl _ _ _ 110 rfl 9 9 GC Tryz.underlying110 (plainElem Tryz.prog 9) wk.heap.size (R+j) D rfl Uy.out hmx _ _ (.string d.data.toList) rfl rfl (B5 Tryz.underlying9 J) (.lit (.string c.data.toList)) [] (plainElem_string Tryz.underlying9 W) ?_)
           |fail)
           intro w7 eX eh;have im:Mod (eQ wk.heap.size) w3 w7:=(Mod.refl _ w3).grown eh (λx hx _=>by simp only[eQ];simpa using hx.symm);have Tq:=mg.put Uy.out.isMap HD.out eX;have MS:Mod dt w w7:=G.out.trans' im (λi hi e=>by simp only[eQ]at e;omega);have HV7:=eC Tq;have Ax:=eC MS;clear Tq MS im eX eh x0 x1 x2 x3;go_wp2_with fail;go_roundw
           case rel=>exact⟨j+1,_,_,by omega,by go_num,H.out,HV7.out,Ax.out⟩
           case measure=>simp[intOf];omega
          .by_cases h3:g=3
           .subst h3;obtain⟨D,A,hD⟩:=vz.out;have hmx:R+j<maxLen:=by unfold maxLen;omega
            have Uy:=eC A;have HD:=eC hD;have H:Hid (iJ s1 (t.ops.take (j+1))=some (oS z d AB,F++[(d,z d)])):=by
             rw[Hid,RG QQ.out Ut.out];simp[jQ]
            clear A hD;go_wp2_with (first
            |(at_delete;refine wpList_delete_own _ rfl _ _ 110 9 rfl 9 GC Tryz.underlying110 (plainElem Tryz.prog 9) wk.heap.size (R+j) D rfl Uy.out _ (.string d.data.toList) rfl (B5 Tryz.underlying9 J) ?_)
            |fail)
            intro w7 eX eh;have im:Mod (eQ wk.heap.size) w3 w7:=(Mod.refl _ w3).grown eh.grown (λx hx _=>by simp only[eQ];simpa using hx.symm);have Tq:=mg.del (Uy.out.tidy GC) HD.out eX;have MS:Mod dt w w7:=G.out.trans' im (λi hi e=>by simp only[eQ]at e;omega);have HV7:=eC Tq;have Ax:=eC MS;clear Tq MS im eX eh x0 x1 x2 x3;go_wp2_with fail;go_roundw
            case rel=>exact⟨j+1,_,_,by omega,by go_num,H.out,HV7.out.mono (by omega),Ax.out⟩
            case measure=>simp[intOf];omega
           .have d1:(g==1)=false:=by simpa using P
            have d2:(g==2)=false:=by simpa using E
            have d3:(g==3)=false:=by simpa using h3
            have H:Hid (iJ s1 (t.ops.take (j+1))=some (z,F)):=by
             rw[Hid,RG QQ.out Ut.out];simp[jQ,P,E,h3]
            clear P E h3;go_wp2_with fail;go_roundw
            case rel=>exact⟨j+1,z,F,by omega,by go_num,H.out,vz.out.mono (by omega),G.out⟩
            case measure=>simp[intOf];omega
        .obtain rfl:j=t.ops.length:=by omega
         have MG:iJ s1 t.ops=some (z,F):=by rw[bQ]at Tg;exact Tg
         have H:Hid (iM ts jv (o.take (p+1))=some z/\Ff z):=⟨by rw[yDo HG1.out Av.out HTT.out,MG];rfl,Zf _ _ _ _ HTD.out MG⟩;have HN:=eC hN;have HM:=eC r;clear Tg MG hN r;go_wp2_with fail;go_roundw
         case rel=>exact⟨p+1,R+t.ops.length,z,by omega,by go_num,H.out.1,H.out.2,HN.out,by omega,HM.out⟩
         case measure=>simp[intOf];omega
      .go_wp2_with fail;go_ret;have T:o.take p=o:=by have:=Bl.out;rw[bM (by omega)]
       have hg2:=HG1.out;rw[T]at hg2;exact⟨oo,true,rfl,⟨λ_=>⟨FF.out.1,FF.out.2,s1,hg2⟩,λ_=>rfl⟩⟩
section
variable {H:Type}{enc:TypeId×Value->H}{w:World}{base:Nat}{spare:Nat->Bool}{held:Bool}
end
theorem RC(w:World)(e:TypeId)(a:Nat):(w.alloc (.cells #[] e)).ownsRow w.heap.size e a (.slice (some ⟨w.heap.size,0,none⟩) 0 0) 0 []:=
 ⟨by simp,.inr ⟨w.heap.size,0,#[],rfl,aD _,A0 w _,aD _,by unfold maxLen;omega,by simp,by simp⟩⟩
theorem zUs{w0:World}{ops:Array Oper}{rest:List Oper}{o:Oper}{a:Act}{Q:Exit->Act->World->Prop}(A:o.guard=none)(s x:Operand)(t:TypeId)
  (J:o.op=.call {callee:=.builtin .append,args:=#[s,x],argTypes:=#[t,t]})
  (e:TypeId) (i:TypeInfo) (z:Value) (size bytes:Nat) (ht:Tryz.prog.underlying t=some (.slice e)) (U:Tryz.prog.info? e=some i) (N:i.zero=some z)
  (f:i.size=size) (F:i.bytes=bytes) (C:z.cells.size=size) (D:0<size)
  (y:∀(g:Nat) (a:Option Addr) (c:Nat) (M:TypeId) (w:World),(Builtin.append_ #[t,t] M #[.slice (some ⟨g,0,none⟩) 0 0,.slice a 0 c]).run Tryz.prog w=.ok (.slice (some ⟨g,0,none⟩) 0 0) w)
  (I:a.eval s=.slice (some ⟨w0.heap.size,0,none⟩) 0 0)
  (G:Option Addr) (m c:Nat) (news:List Value) (B:a.eval x=.slice G m c) (L:news.length=m*size) (l:m=0\/∃p,G=some p/\∀j u,news[j]?=some u->w0.cell? (p.add j)=some u) (Y:∀u∈news,u.oneCell'=true)
  (X:m<=maxLen) (d:m*bytes<=140737488355328)
  (h:∀(g cap:Nat) v,v.ownsRow w0.heap.size e size (.slice (some ⟨g,0,none⟩) m cap) m news->Mod dt w0 v->wpList Tryz.prog ops Q rest (a.put o.dst (.slice (some ⟨g,0,none⟩) m cap)) v) :
  wpList Tryz.prog ops Q (o::rest) a (w0.alloc (.cells #[] e)):=by
 have q:Mod dt w0 (w0.alloc (.cells #[] e)):=(Mod.refl _ w0).alloc _;by_cases E:m=0
 .subst E;have S:news=[]:=aR (by simpa using L);subst S;refine A2 A λK W=>?_;have P:=y w0.heap.size G c o.type (w0.alloc (.cells #[] e));unfold Oper.wp execOp;simp only[J,resolve,invoke,builtin,Sem.run_bind,Sem.run_pure,Result.andThen_ok,cD,bZ,cO,I,B,P];exact W _ _ (h _ _ _ (RC w0 e size) q)
 .obtain⟨p,rfl,V⟩:=l.resolve_left E;refine wpList_append_own _ A s x t J w0.heap.size e i z size bytes ht U N f F C D _ 0 [] I (RC w0 e size) p m c news B L (λj u O=>q.cell (V j u O) id) Y (by omega) (by rw[aY];exact d) (by simp) ?_;intro v' v b r R;have Z:Mod dt w0 v:=q.grown r (λx B T=>by simp[Value.ownBlock]at B;omega);simp only[aY,aa]at b;obtain⟨e0,e1⟩|⟨g,cap,cur,rfl,_⟩:=b.2
  .exact absurd e1 E
  .exact h g cap v b Z
theorem yCw:∀(ts:List eY) (a:List Value) (j:Nat) (x:Value),a.length=ts.length->(pC ts a)[j]?=some x->∃(i r:Nat) (t:eY) (v:Value),j=i*3+r/\ts[i]?=some t/\a[i]?=some v/\(sH t v)[r]?=some x:=λts a j x e h=>by
 have g:j<ts.length*3:=by rw[<-Zz ts a e];exact(aB.1 h).1
 have f:j / 3<ts.length:=by omega
 have b:j / 3<a.length:=by omega
 have d:j % 3<(sH ts[j / 3] a[j / 3]).length:=by show j % 3<3;omega
 have c:=Ib ts a (j / 3) ts[j / 3] a[j / 3] e (aA f) (aA b) (j % 3) _ (aA d);rw[show j / 3*3+j % 3=j by omega,h]at c;simp only[ag]at c;exact⟨j / 3,j % 3,ts[j / 3],a[j / 3],by omega,aA f,aA b,by rw[c];exact aA d⟩
theorem zTl:∀(ts:List eY) (a:List Value),(∀v∈a,v.oneCell'=true)->∀u∈pC ts a,u.oneCell'=true
|[],_,_,u,h=>by simp[pC]at h
|_::_,[],_,u,h=>by simp[pC]at h
|t::ts,v::a,c,u,h=>by
  rcases aM.1 h with h|h
  .simp[sH]at h;obtain rfl|rfl|rfl:=h
   .exact c _ (by simp)
   .rfl
   .rfl
  .exact zTl ts a (λv b=>c v (by simp[b])) u h
theorem nz.flat{L:Nat}{a:Option Addr}{cap:Nat}(h:nz w L (.slice a n cap) ts):∃m:List Value,m.length=ts.length/\(n=0\/∃p,a=some p/\∀(j:Nat) u,(pC ts m)[j]?=some u->w.cell? (p.add j)=some u)/\(∀(i:Nat) t v,ts[i]?=some t->m[i]?=some v->ou w L v t.ops/\gi t.eP/\gi t.fN)/\∀v∈m,v.oneCell'=true:=by
 obtain⟨N,B,A,_,_,J⟩:=h;simp only[Value.slice.injEq]at A;obtain⟨rfl,rfl,rfl⟩:=A;obtain rfl|⟨b,q,rfl,K,I⟩:=J
 .exact⟨[],rfl,.inl rfl,λi t v h=>by simp at h,λv h=>by simp at h⟩
 have z:∀i,i<ts.length->∃v:Value,∀t,ts[i]?=some t->(ou w L v t.ops/\gi t.eP/\gi t.fN)/\∀(j:Nat) x,(sH t v)[j]?=some x->w.cell? ⟨b,q+i*3+j,none⟩=some x:=λi c=>by
  obtain⟨M,⟨v,rfl,E,D,C⟩,_,k4⟩:=I i ts[i] (aA c);refine⟨v,λt ht=>?_⟩;rw[aA c]at ht;simp only[ag]at ht;subst ht;exact⟨⟨E,D,C⟩,k4⟩
 obtain⟨f,y⟩:=Go.Deep.choose_lt (α:=Value) z;have g:∀(i:Nat) t v,ts[i]?=some t->((List.range ts.length).map f)[i]?=some v->i<ts.length/\v=f i:=λi t v ht d=>by
  have c:i<ts.length:=(aB.1 ht).1;rw[ah,cz c]at d;exact⟨c,by simpa using d.symm⟩
 refine⟨(List.range ts.length).map f,by simp,.inr ⟨_,rfl,λj u F=>?_⟩,λi t v ht d=>?_,λv d=>?_⟩
 .obtain⟨i,r,t,v,rfl,ht,d,G⟩:=yCw ts _ j u (by simp) F;obtain⟨c,rfl⟩:=g i t v ht d;rw[A1,<-cj];exact(y i c t ht).2 r u G
 .obtain⟨c,rfl⟩:=g i t v ht d;exact(y i c t ht).1
 .obtain⟨i,c,rfl⟩:=aj.1 d;have l:i<ts.length:=by simpa using c
  obtain⟨_,_,e,_⟩:=((y i l ts[i] (aA l)).1).1;rw[e];rfl
end Go.Proofs.YtmaiggbnceejiaaGreatDoor
namespace Go.Proofs.YtmaiggbnceejiaaGreatDoor
open Go.RowKit Go.Lib Go.Maps
variable {ty:TypeId}{w:World}{B n cap i j:Nat}{ts:List eY}{vs:List Value}{t:eY}{o:List Nat}{v:Value}
theorem Tryz.LR:(Tryz.prog.info? 46).map (λi=>(i.zero,i.size,i.bytes))=some (some (.agg #[.slice none 0 0,.int .i64 0,.int .i64 0]),3,40):=by kernel_rfl
theorem yCl(g:Nat)(a:Option Addr)(c:Nat)(ty:TypeId)(w:World):(Builtin.append_ #[29,29] ty #[.slice (some ⟨g,0,none⟩) 0 0,.slice a 0 c]).run Tryz.prog w=.ok (.slice (some ⟨g,0,none⟩) 0 0) w:=by
 cases a <;> kernel_rfl
theorem jt.rJ{b:Nat}(h:jt ty w B (.slice (some ⟨b,0,none⟩) n cap) ts vs)(a:n=ts.length)(c:ts[i]?=some t)(u:Int):jt ty (w.setCell ⟨b,i*3+2,none⟩ (.int .i64 u)) B (.slice (some ⟨b,0,none⟩) n cap) (ts.set i ⟨t.ops,t.eP,u⟩) vs:=by
 subst a;refine⟨by simpa using h.1,?_⟩;rw[<-zKh ts vs i t u h.1 c,ai];exact yPw h.2 _ _
theorem ySg(ht:ts[j]?=some t)(f:j∉o)(d:0<=t.fN):(iw ts o j).set j ⟨t.ops,t.eP,-1⟩=iw ts o (j+1):=by
 have c:j<ts.length:=(aB.1 ht).1;apply bP;intro i;by_cases e:i=j
 .subst e;rw[List.getElem?_set_self (by rw[BU];exact c),BP ht,aK ⟨by omega,f,d⟩]
 .rw[List.getElem?_set_ne (λq=>e q.symm)]
  cases a:ts[i]? with
 |none=>
   have b:ts.length<=i:=by simpa using a
   rw[aX (by rw[BU];exact b),aX (by rw[BU];exact b)]
 |some g=>
   rw[BP a,BP a];by_cases q:i<j
   .simp[q,show i<j+1 by omega]
   .simp[q,show ¬i<j+1 by omega]
theorem yFy(ht:ts[j]?=some t)(h:j∈o\/¬0<=t.fN):iw ts o j=iw ts o (j+1):=by
 apply bP;intro i
 cases a:ts[i]? with
|none=>
  have b:ts.length<=i:=by simpa using a
  rw[aX (by rw[BU];exact b),aX (by rw[BU];exact b)]
|some c=>
  rw[BP a,BP a];by_cases e:i=j
  .subst e;rw[ht]at a;simp only[ag]at a;subst a;rw[aH (by omega),aH (λq=>by obtain h|h:=h;exact q.2.1 h;exact h q.2.2)]
  .by_cases q:i<j
   .simp[q,show i<j+1 by omega]
   .simp[q,show ¬i<j+1 by omega]
theorem EI.stay(f:EI ts o j)(ht:ts[j]?=some t)(h:j∈o\/¬0<=t.fN):EI ts o (j+1):=λi d g a c b=>by
 by_cases e:i=j
 .subst e;rw[ht]at a;simp only[ag]at a;subst a;exact absurd h (by simp[c,b])
 .exact f i d (by omega) a c b
theorem EI.more(g:EI ts o j)(ht:ts[j]?=some t)(h:∀(p k:Nat) u,o[p]?=some k->ts[k]?=some u->¬t.fN<u.eP):EI ts o (j+1):=λi d r a m l k c u b=>by
 by_cases e:i=j
 .subst e;rw[ht]at a;simp only[ag]at a;subst a;obtain⟨p,f,q⟩:=cU c;exact h p k u (by rw[aA f,q]) b
 .exact g i d (by omega) a m l k c u b
theorem ou.up'{L e:Nat}{os:List fm}(h:ou w L v os)(p:L<=e):ou w e v os:=by
 obtain⟨a,cap,m,l,k,d⟩:=h;refine⟨a,cap,m,l,k,?_⟩;obtain d|⟨b,c,g,q,f⟩:=d
 .exact .inl d
 .exact .inr ⟨b,c,g,by omega,f⟩
theorem kF.mod{w':World}{ns:List Int}(h:kF w v ns)(f:Mod dt w w'):kF w' v ns:=by
 obtain⟨a,cap,p,m,l,d⟩:=h;refine⟨a,cap,p,m,l,?_⟩;obtain d|⟨b,c,k,g⟩:=d
 .exact .inl d
 .exact .inr ⟨b,c,k,λj x e=>f.cell (g j x e) id⟩
def yZc(w:World)(ts:List eY)(o:List Nat)(e:Ending)(w':World):Prop:=Mod dt w w'/\∃b:Bool,e=.returned (.bool b)/\(b=true↔∃a,jZ ts [] jv o=some a)
theorem jt.cell'{g:Nat}(h:jt ty w B (.slice (some ⟨g,0,none⟩) n cap) ts vs)(b:ts[i]?=some t):w.cell? ⟨g,i*3+1,none⟩=some (.int .i64 t.eP)/\w.cell? ⟨g,i*3+2,none⟩=some (.int .i64 t.fN)/\w.frozen? ⟨g,i*3+2,none⟩=false/\g<w.heap.size:=by
 obtain⟨v,hv⟩:∃v,vs[i]?=some v:=⟨_,aA (by rw[h.1];exact(aB.1 b).1)⟩;have a:∀j x,(sH t v)[j]?=some x->w.cell? ⟨g,i*3+j,none⟩=some x:=λj x c=>by
  have:=h.2.cells (g:=g) rfl _ _ (Ib ts vs i t v h.1 b hv j x c);rw[A1,aY]at this;exact this
 obtain⟨_,e,f,d⟩:=fs h.2 (k:=g) rfl;exact⟨a 1 _ rfl,a 2 _ rfl,by simp[World.frozen?,d],e⟩
theorem yMd(L:Nat)(tv ov:Value)(ts:List eY)(o:List Nat)(w:World)(ht:nz w L tv ts)(hL:L<=w.heap.size)(ho:kF w ov (ee o))(A:o.Nodup)(a:∀n∈o,n<ts.length)(hts:ts.length<=8)(je:∀t∈ts,t.ops.length<=200) :
  Calls Tryz.prog 26 #[tv,ov] w (yZc w ts o):=by
 obtain⟨ta,gz,rfl,SV,Cl⟩:=gD.slice ht;obtain⟨N,y,XI,XH,Q⟩:=nz.flat ht;obtain⟨x0,xi,xz0,xz1,xz2⟩:=A3 Tryz.LR;have hol:o.length<=8:=by
  have:=dK A (l₂:=List.range ts.length) (λx hx=>bV.2 (a x hx));simp at this;omega
 have Dw:=eC ho;obtain⟨oa,jL,rfl,Sp,Cv,uf⟩:=ho;have Js:=eC uf;have Z:=eC XI;have Uc:=eC XH;have re:=eC (zTl ts N Q);have wB:=eC (Zz ts N y);have HVL:=eC y;have J:=eC A;have pH:=eC a;have Dm:=eC je;have Bl:=eC (IL o);have X:ts.length<=maxLen:=by unfold maxLen;omega
 have Y:ts.length*40<=140737488355328:=by omega
 unfold maxLen at Cl Cv;have hoI:((ee o).length:Int)<=8:=by have:=IL o;omega
 clear ht XI XH Q y A a je uf;go_enter Tryz.func26,Tryz.ntmps26;go_wp2_with (first
 |(at_builtin;(refine zUs (w0:=w) rfl _ _ 29 rfl 46 x0 _ 3 40 Tryz.underlying29 xi xz0 xz1 xz2 rfl (by omega) yCl rfl ta ts.length gz (pC ts N) rfl wB.out Z.out re.out X Y ?_))
 |fail)
 intro F M wa m Lt;have hgx:=(fs m (k:=F) rfl).1;have Oq:ts.length<=M/\M<=maxLen:=by
  obtain⟨e,_⟩|⟨_,_,_,e,_,_,h1,h2,_⟩:=m.2
  .cases e
  .simp only[Value.slice.injEq]at e;rw[e.2.2];exact⟨h1,h2⟩
 have Jb:jt 46 wa 0 (.slice (some ⟨F,0,none⟩) ts.length M) (iw ts o 0) N:=by rw[ySf];exact⟨HVL.out,vl m (aT _)⟩
 have FJ:=eC Jb;have Aw:=eC Lt;unfold maxLen at Oq;clear Jb m Lt re wB Z X Y;go_wp2_with fail;go_loopw [17] (λi wr=>∃j:Nat,j<=ts.length/\i=.int .i64 j/\jt 46 wr 0 (.slice (some ⟨F,0,none⟩) ts.length M) (iw ts o j) N/\EI ts o j/\Mod dt w wr) (λi _=>ts.length-(intOf i).toNat)
 case atStart=>exact⟨0,aT _,rfl,FJ.out,λi t h=>by omega,Aw.out⟩
 case round=>
  obtain⟨j,hj,rfl,V,hO,E⟩:=hrel;clear FJ Aw;obtain⟨wk,hwk⟩:∃q,q=wr:=⟨_,rfl⟩;subst hwk;by_cases T:j<ts.length
  .have jq:(j:Int)<(ts.length:Int):=by omega
   have mT:(0:Int)<=(j:Int):=by omega
   obtain⟨t,ht⟩:∃t,ts[j]?=some t:=⟨_,aA T⟩;have C:(iw ts o j)[j]?=some t:=by rw[BP ht,aH (by omega)]
   obtain⟨c1,c2,f2,zx⟩:=V.cell' C;have HR:=eC V;have HO:=eC hO;have O:=eC E;have G:=eC ht;have HCJ:=eC C;clear V hO E ht C;go_wp2_with fail;go_loopw [7,22] (λb s wx=>∃p:Nat,p<=(ee o).length/\s=.int .i64 p/\b=.bool (decide (j∈o.take p))/\wk=wx) (λ_ s _=>(ee o).length-(intOf s).toNat)
   case atStart=>exact⟨0,aT _,rfl,by simp,rfl⟩
   case round=>
    obtain⟨p,hp,rfl,rfl,rfl⟩:=hrel;by_cases Eo:p<(ee o).length
    .have f:p<o.length:=by have:=Bl.out;omega
     obtain⟨n,d⟩:∃n,o[p]?=some n:=⟨_,aA f⟩;have P:(ee o)[p]?=some (n:Int):=by unfold ee;rw[ah,d];rfl
     obtain e|⟨ob,off,rfl,g⟩:=Js.out
     .rw[e]at Eo;simp at Eo
     have q0:=O.out.cell (g p (n:Int) P) id;have hpI:(p:Int)<((ee o).length:Int):=by omega
     have hp0:(0:Int)<=(p:Int):=by omega
     have tR:o.take (p+1)=o.take p++[n]:=by
      rw[ax f];rw[aA f]at d;simp at d;rw[d]
     have zX:=eC tR;clear d P g tR;by_cases a:j∈o.take p
     .rw[aQ a];go_wp2_with fail;go_roundw
      case rel=>exact⟨p+1,by omega,by go_num,by rw[aQ (by rw[zX.out];simp[a])],by trivial⟩
      case measure=>simp[intOf];omega
     .rw[aN a];by_cases JN:n=j
      .subst JN;go_wp2_with fail;go_roundw
       case rel=>exact⟨p+1,by omega,by go_num,by rw[aQ (by rw[zX.out];simp)],by trivial⟩
       case measure=>simp[intOf];omega
      .have hnb:((n:Int)==(j:Int))=false:=by simp;omega
       go_wp2_with fail;go_roundw
       case rel=>exact⟨p+1,by omega,by go_num,by rw[aN (by rw[zX.out];simp[a];omega)],by trivial⟩
       case measure=>simp[intOf];omega
    .have S:o.take p=o:=by have:=Bl.out;rw[bM (by omega)]
     rw[S];clear S;by_cases a:j∈o
     .rw[aQ a];have HC:Hid (iw ts o j=iw ts o (j+1)):=yFy G.out (.inl a);have I:=eC (HO.out.stay G.out (.inl a));clear a;go_wp2_with fail;go_roundw
      case rel=>exact⟨j+1,by omega,by go_num,by rw[<-HC.out];exact HR.out,I.out,O.out⟩
      case measure=>simp[intOf];omega
     .rw[aN a];by_cases c:0<=t.fN
      .have hd:decide (t.fN ≥ 0)=true:=aQ c;go_wp2_with fail;go_loopw [45] (λs wx=>∃p:Nat,p<=(ee o).length/\s=.int .i64 p/\(∀(q k:Nat) u,q<p->o[q]?=some k->ts[k]?=some u->¬t.fN<u.eP)/\jt 46 wx 0 (.slice (some ⟨F,0,none⟩) ts.length M) (iw ts o j) N/\Mod dt w wx) (λs _=>(ee o).length-(intOf s).toNat)
       case atStart=>exact⟨0,aT _,rfl,λq k u h=>by omega,HR.out,O.out⟩
       case round=>
        obtain⟨p,hp,rfl,r,D,W⟩:=hrel;obtain⟨wz,hwz⟩:∃q,q=wr:=⟨_,rfl⟩;subst hwz;obtain⟨_,YL,f2',zx'⟩:=D.cell' HCJ.out;have H:=eC D;have yj:=eC r;have YX:=eC W;clear r D W;by_cases Eo:p<(ee o).length
        .have f:p<o.length:=by have:=Bl.out;omega
         obtain⟨n,d⟩:∃n,o[p]?=some n:=⟨_,aA f⟩;have P:(ee o)[p]?=some (n:Int):=by unfold ee;rw[ah,d];rfl
         have hnl:=pH.out n (aC d);obtain⟨u,R⟩:∃u,ts[n]?=some u:=⟨_,aA hnl⟩;obtain e|⟨ob,off,rfl,g⟩:=Js.out
         .rw[e]at Eo;simp at Eo
         have q0:=YX.out.cell (g p (n:Int) P) id;obtain⟨u',hu',huf⟩:∃u',(iw ts o j)[n]?=some u'/\u'.eP=u.eP:=⟨_,BP R,by split <;> rfl⟩;have d1:=(H.out.cell' hu').1;rw[huf]at d1;have hpI:(p:Int)<((ee o).length:Int):=by omega
         have hp0:(0:Int)<=(p:Int):=by omega
         have Sy:(n:Int)<(ts.length:Int):=by omega
         have hn0:(0:Int)<=(n:Int):=by omega
         have Av:=eC d;have Ud:=eC R;clear d P g R hu' huf f2';by_cases gE:t.fN<u.eP
         .have hdf:decide (t.fN<u.eP)=true:=aQ gE;have kQ:Hid (¬∃s2,jZ ts [] jv o=some s2):=λh=>by
           have h1:=((Zd J.out).2 h).1;exact h1 j t T G.out a c n (aC Av.out) u Ud.out gE
          go_upto_region 15 with fail;go_quiet (fail);go_wp2_with fail;go_ret;exact⟨YX.out.drewN _,false,rfl,⟨λe=>by simp at e,λe=>absurd e kQ.out⟩⟩
         .have hdf:decide (t.fN<u.eP)=false:=aN gE;have VT:Hid (∀(q k:Nat) u,q<p+1->o[q]?=some k->ts[k]?=some u->¬t.fN<u.eP):=λq k v hq hk K=>by
           by_cases e:q=p
           .subst e;rw[Av.out]at hk;simp at hk;subst hk;rw[Ud.out]at K;simp at K;subst K;exact gE
           .exact yj.out q k v (by omega) hk K
          go_upto_region 15 with fail;go_quiet (fail);go_wp2_with fail;go_roundw
          case rel=>exact⟨p+1,by omega,by go_num,VT.out,H.out.mod ((Mod.refl dt wz).drewN _) (λ_ _=>id),YX.out.drewN _⟩
          case measure=>simp[intOf];omega
        .have uB:=H.out.rJ (BU ts o j).symm HCJ.out (-1);rw[ySg G.out a c]at uB;have Bk:=eC uB;have HO5:Hid (EI ts o (j+1)):=HO.out.more G.out (λq k u hq R=>yj.out q k u (by have:=Bl.out;have:=(aB.1 hq).1;omega) hq R);have mH:Hid (Mod dt w (wz.setCell ⟨F,j*3+2,none⟩ (.int .i64 (-1)))):=YX.out.setCell (p:=⟨F,j*3+2,none⟩) (λh=>by simp at h;omega) _;clear uB;go_wp2_with fail;go_roundw
         case rel=>exact⟨j+1,by omega,by go_num,Bk.out,HO5.out,mH.out⟩
         case measure=>simp[intOf];omega
      .have hd:decide (t.fN ≥ 0)=false:=aN c;have HC:Hid (iw ts o j=iw ts o (j+1)):=yFy G.out (.inr c);have I:=eC (HO.out.stay G.out (.inr c));go_wp2_with fail;go_roundw
       case rel=>exact⟨j+1,by omega,by go_num,by rw[<-HC.out];exact HR.out,I.out,O.out⟩
       case measure=>simp[intOf];omega
  .obtain rfl:j=ts.length:=by omega
   have U:nz wk wk.heap.size (.slice (some ⟨F,0,none⟩) ts.length M) (iw ts o ts.length):=by
    have h:=V;have hl:(iw ts o ts.length).length=ts.length:=BU _ _ _;refine h.nO (aD _) (λi t v hi K=>?_);obtain⟨t0,z,rfl⟩:=Qg hi;obtain⟨k1,k2,k3⟩:=Uc.out i t0 v z K;have k4:=(k1.mod E (λ_ _=>id)).up' (aO hL E.size);split
    .exact⟨k4,k2,by simp[gi]⟩
    .exact⟨k4,k2,k3⟩
   have VM:=eC (yFk wk.heap.size _ _ (iw ts o ts.length) o wk U (aD _) (Dw.out.mod E) J.out (λn d=>by rw[BU];exact pH.out n d) (by rw[BU];exact hts) (λt ht=>by
    obtain⟨i,hi,e⟩:=cU ht;obtain⟨t0,z,h2⟩:=Qg (ts:=ts) (o:=o) (j:=ts.length) (i:=i) (t':=t) (by rw[aA hi,e]);have h3:=Dm.out t0 (aC z);rw[h2];split <;> exact h3))
   have HO:=eC hO;have O:=eC E;clear V hO E U;go_wp2_with fail;refine VM.out.mono ?_;rintro e w5⟨fA,b,rfl,hb⟩;have HB:Hid (b=true↔∃s2,jZ ts [] jv o=some s2):=by
    rw[Hid,hb];exact⟨λh=>(Zd J.out).1 ⟨HO.out,(Qh J.out).2 h⟩,λh=>(Qh J.out).1 ((Zd J.out).2 h).2⟩
   have mH:=eC (O.out.trans fA);clear hb fA;go_wp2_with fail;go_ret;exact⟨mH.out,b,rfl,HB.out⟩
theorem zRz(g:Nat)(a:Option Addr)(c:Nat)(ty:TypeId)(w:World):(Builtin.append_ #[26,26] ty #[.slice (some ⟨g,0,none⟩) 0 0,.slice a 0 c]).run Tryz.prog w=.ok (.slice (some ⟨g,0,none⟩) 0 0) w:=by
 cases a <;> kernel_rfl
theorem yGa(W:World)(B k:Nat)(hE:W.ownsRow B 3 1 (.slice (some ⟨k,0,none⟩) 0 0) 0 [])(hB:B<=W.heap.size)(ns:List Int)(a:Option Addr)(cap:Nat)(G:kF W (.slice a ns.length cap) ns)(N:ns.length<=1000)(ty:TypeId) :
  ∃g c y,(Builtin.append_ #[26,26] ty #[.slice (some ⟨k,0,none⟩) 0 0,.slice a ns.length cap]).run Tryz.prog W=.ok (.slice (some ⟨g,0,none⟩) ns.length c) y/\y.ownsRow B 3 1 (.slice (some ⟨g,0,none⟩) ns.length c) ns.length (ns.map (Value.int .i64))/\Mod (eQ k) W y:=by
 obtain⟨E,K,q,p,m⟩:=A3 Tryz.info3;by_cases h0:ns.length=0
 .have I:ns=[]:=aR h0;subst I;exact⟨k,0,W,zRz k a cap ty W,hE,Mod.refl _ _⟩
 .obtain⟨O,D,C,_,_,s⟩:=G;simp only[Value.slice.injEq]at C;obtain⟨rfl,_,rfl⟩:=C;obtain s|⟨b,l,rfl,L⟩:=s
  .rw[s]at h0;simp at h0
  obtain⟨M,z,H,d,h,A,_⟩:=C0 (P:=Tryz.prog) W B 26 ty 3 E _ 1 8 Tryz.underlying26 K q p m rfl (by omega) _ _ _ hE ⟨b,l,none⟩ ns.length cap (ns.map (Value.int .i64)) (by simp) (λj u f=>by
   rw[ah]at f
   cases r:ns[j]? with
  |none=>rw[r]at f;cases f
  |some x=>
    rw[r]at f;simp only[bJ,ag]at f;rw[<-f,A1];exact L j x r) (λu f=>by
   obtain⟨x,_,rfl⟩:=aj.1 f;rfl) (by unfold maxLen;omega) (by omega) hB
  have J:Mod (eQ k) W z:=(Mod.refl _ W).grown h (λx F _=>by simp[Value.ownBlock]at F;simp only[eQ];omega);simp only[aY,aa]at d;obtain⟨_,e⟩|⟨g,c,cur,rfl,_⟩:=d.2
  .exact absurd e h0
  .exact⟨g,c,z,H,d,J⟩
theorem yDi(W:World)(B g n c p:Nat)(xs:List Value)(k:Int)(D:W.ownsRow B 3 1 (.slice (some ⟨g,0,none⟩) n c) n xs)(hB:B<=W.heap.size)(C:W.cell? ⟨p,0,none⟩=some (.int .i64 k))(F:n<=1000)(ty:TypeId) :
  ∃f e q,(Builtin.append_ #[26,26] ty #[.slice (some ⟨g,0,none⟩) n c,.slice (some ⟨p,0,none⟩) 1 1]).run Tryz.prog W=.ok (.slice f (n+1) e) q/\q.ownsRow B 3 1 (.slice f (n+1) e) (n+1) (xs++[.int .i64 k])/\Mod (eQ g) W q:=by
 obtain⟨s,A,m,l,h⟩:=A3 Tryz.info3;obtain⟨E,r,z,b,d,_,_⟩:=C0 (P:=Tryz.prog) W B 26 ty 3 s _ 1 8 Tryz.underlying26 A m l h rfl (by omega) _ _ _ D ⟨p,0,none⟩ 1 1 [.int .i64 k] rfl (λj u a=>by
  match j,a with
 |0,a=>simp at a;subst a;rw[A1];exact C
 |j+1,a=>simp at a) (λu a=>by simp at a;subst a;rfl) (by unfold maxLen;omega) (by omega) hB
 obtain⟨f,e,rfl⟩:=fU b;exact⟨f,e,r,z,b,(Mod.refl _ W).grown d (λx y _=>by simp[Value.ownBlock]at y;simp only[eQ];omega)⟩
theorem IZ{P:Program}{w w':World}{o:Oper}{a:Act}{s x:Operand}{t:TypeId}{vs b v:Value}(f:o.op=.call {callee:=.builtin .append,args:=#[s,x],argTypes:=#[t,t]})(d:a.eval s=vs)(c:a.eval x=b)
  (e:(Builtin.append_ #[t,t] o.type #[vs,b]).run P w=.ok v w'):(execOp a.eval o).run P w=.ok (.value v) w':=by
 simp only[execOp,f,resolve,invoke,builtin,Sem.run_bind,Sem.run_pure,Result.andThen_ok,cD,bZ,cO,d,c,e]
structure yZh(wk W:World)(v:Value)(o:List Nat)(k:Nat):Prop where
 ints:kF W v (ee (o++[k]))
 mod:Mod dt wk W
theorem yLc{a W:World}{k:Nat}(h:W.ownsRow B 3 1 v ((ee o).length+1) ((ee o).map (Value.int .i64)++[.int .i64 (k:Int)]))(b:Mod dt a W):yZh a W v o k:=by
 have e:ee (o++[k])=ee o++[(k:Int)]:=by simp[ee]
 refine⟨?_,b⟩;rw[e];refine kF.iX (B:=B) ?_;simpa using h
theorem ySq(d:World)(o:List Nat)(k:Nat)(a:Option Addr)(cap:Nat)(C:kF d (.slice a (ee o).length cap) (ee o))(H:o.length<=8)(h:Nat)(W:World)(B:Nat)(s:Mod dt d W)(hE:W.ownsRow B 3 1 (.slice (some ⟨h,0,none⟩) 0 0) 0 [])(hB:B<=W.heap.size)(E:d.heap.size<=B)(ty f:TypeId) :
  ∃g c b m l p,(Builtin.append_ #[26,26] ty #[.slice (some ⟨h,0,none⟩) 0 0,.slice a (ee o).length cap]).run Tryz.prog W=.ok (.slice (some ⟨g,0,none⟩) (ee o).length c) b/\Mod dt d b /\
   (Builtin.append_ #[26,26] f #[.slice (some ⟨g,0,none⟩) (ee o).length c,.slice (some ⟨b.heap.size,0,none⟩) 1 1]).run Tryz.prog (b.alloc (.cells #[.int .i64 (k:Int)] 3))=.ok (.slice m ((ee o).length+1) l) p/\yZh d p (.slice m ((ee o).length+1) l) o k:=by
 have D:=IL o;obtain⟨g,c,b,y,q,r⟩:=yGa W B h hE hB (ee o) a cap (C.mod s) (by omega) ty;have G:=fs hE (k:=h) rfl;have u:Mod dt d b:=s.trans' r (λi F e=>by simp only[eQ]at e;omega);have J:=r.size;have I:=fs q (k:=g) rfl;obtain⟨m,l,p,x,z,A⟩:=yDi (b.alloc (.cells #[.int .i64 (k:Int)] 3)) B g _ c b.heap.size _ (k:Int) (q.alloc _) (by simp;omega) ((dx.new b [.int .i64 (k:Int)] 3).cell 0 rfl) (by omega) f;exact⟨g,c,b,m,l,p,y,u,x,yLc z ((u.alloc _).trans' A (λi F e=>by simp only[eQ]at e;omega))⟩
theorem Wt(d:World)(o:List Nat)(k:Nat)(a:Option Addr)(cap:Nat)(E:kF d (.slice a (ee o).length cap) (ee o))(K:o.length<=8)(h l:Nat)(W:World)(B:Nat)(x:Mod dt d W)(hE:W.ownsRow B 3 1 (.slice (some ⟨h,0,none⟩) 0 0) 0 [])(hB:B<=W.heap.size)(G:d.heap.size<=B)(J:W.cell? ⟨l,0,none⟩=some (.int .i64 (k:Int)))(s:l≠h)(ty f:TypeId) :
  ∃g c b p m q,(Builtin.append_ #[26,26] ty #[.slice (some ⟨h,0,none⟩) 0 0,.slice a (ee o).length cap]).run Tryz.prog W=.ok (.slice (some ⟨g,0,none⟩) (ee o).length c) b/\Mod dt d b /\
   (Builtin.append_ #[26,26] f #[.slice (some ⟨g,0,none⟩) (ee o).length c,.slice (some ⟨l,0,none⟩) 1 1]).run Tryz.prog b=.ok (.slice p ((ee o).length+1) m) q/\yZh d q (.slice p ((ee o).length+1) m) o k:=by
 have F:=IL o;obtain⟨g,c,b,A,u,r⟩:=yGa W B h hE hB (ee o) a cap (E.mod x) (by omega) ty;have I:=fs hE (k:=h) rfl;have y:Mod dt d b:=x.trans' r (λi H e=>by simp only[eQ]at e;omega);have L:=fs u (k:=g) rfl;obtain⟨p,m,q,z,C,D⟩:=yDi b B g _ c l _ (k:Int) u (aO hB r.size) (r.cell J (by simp only[eQ];exact s)) (by omega) f;exact⟨g,c,b,p,m,q,A,y,z,yLc C (y.trans' D (λi H e=>by simp only[eQ]at e;omega))⟩
theorem ySu(a:World):Mod dt a (a.alloc (.cells #[] 3)).drew/\(a.alloc (.cells #[] 3)).drew.ownsRow a.heap.size 3 1 (.slice (some ⟨a.heap.size,0,none⟩) 0 0) 0 []/\a.heap.size<=(a.alloc (.cells #[] 3)).drew.heap.size:=
 ⟨((Mod.refl _ a).alloc _).drew,gO (RC a _ _) ((Mod.refl dt _).drew) (λ_ _ _ _=>id),(((Mod.refl dt a).alloc (.cells #[] 3)).drew).size⟩
theorem ySt(a:World)(k:Int):Mod dt a ((a.alloc (.cells #[] 3)).alloc (.cells #[.int .i64 k] 3)).drew/\((a.alloc (.cells #[] 3)).alloc (.cells #[.int .i64 k] 3)).drew.ownsRow a.heap.size 3 1 (.slice (some ⟨a.heap.size,0,none⟩) 0 0) 0 []/\a.heap.size<=((a.alloc (.cells #[] 3)).alloc (.cells #[.int .i64 k] 3)).drew.heap.size/\((a.alloc (.cells #[] 3)).alloc (.cells #[.int .i64 k] 3)).drew.cell? ⟨a.heap.size+1,0,none⟩=some (.int .i64 k):=by
 have h:=(dx.new (a.alloc (.cells #[] 3)) [.int .i64 k] 3).cell 0 rfl;rw[A4]at h;exact⟨(((Mod.refl _ a).alloc _).alloc _).drew,gO (RC a _ _) (((Mod.refl dt _).alloc _).drew) (λ_ _ _ _=>id),((((Mod.refl dt a).alloc (.cells #[] 3)).alloc (.cells #[.int .i64 k] 3)).drew).size,h⟩
theorem ySs(a:World)(k:Int):Mod dt a ((a.alloc (.cells #[.int .i64 k] 3)).alloc (.cells #[] 3)).drew/\((a.alloc (.cells #[.int .i64 k] 3)).alloc (.cells #[] 3)).drew.ownsRow (a.heap.size+1) 3 1 (.slice (some ⟨a.heap.size+1,0,none⟩) 0 0) 0 []/\a.heap.size+1<=((a.alloc (.cells #[.int .i64 k] 3)).alloc (.cells #[] 3)).drew.heap.size/\((a.alloc (.cells #[.int .i64 k] 3)).alloc (.cells #[] 3)).drew.cell? ⟨a.heap.size,0,none⟩=some (.int .i64 k):=by
 have h:=RC (a.alloc (.cells #[.int .i64 k] 3)) 3 1;rw[A4]at h;have b:=(((Mod.refl dt (a.alloc (.cells #[.int .i64 k] 3))).alloc (.cells #[] 3)).drew).size;rw[A4]at b;exact⟨(((Mod.refl _ a).alloc _).alloc _).drew,gO h ((Mod.refl dt _).drew) (λ_ _ _ _=>id),b,(((Mod.refl dt (a.alloc (.cells #[.int .i64 k] 3))).alloc (.cells #[] 3)).drew).cell ((dx.new a [.int .i64 k] 3).cell 0 rfl) id⟩
end Go.Proofs.YtmaiggbnceejiaaGreatDoor
namespace Go.Proofs.YtmaiggbnceejiaaGreatDoor
open Go.RowKit Go.Lib Go.Maps
variable {ts:List eY}{o:List Nat}{s:eF}{k gs g c m i lb:Nat}{w w' W w4 wr:World}{F:Nat->Prop}{y:dq}{xv:Value}{vs:List Value}
theorem Vr(ts:List eY):∀(l r d:List Nat) (s:gh),jZ ts d s (l++r)=(jZ ts d s l).bind λe=>jZ ts (d++l) e r
|[],r,d,s=>by simp[jZ]
|n::l,r,d,s=>by
  by_cases a:KG ts d n
  .cases ht:ts[n]? with
  |none=>rw[bI,jZ,jZ,aK a,aK a,ht];rfl
  |some t=>
    cases b:iJ s t.ops with
   |none=>rw[bI,jZ,jZ,aK a,aK a,ht];simp only;rw[b];rfl
   |some x=>
     rw[bI,Vf a ht b,Vf a ht b,Vr ts l r (d++[n]) x.1];simp
  .rw[bI,jZ,jZ,aH a,aH a];rfl
def NQ(w:World)(ts:List eY)(o:List Nat)(s:gh)(e:Ending)(w':World):Prop:=
 Mod dt w w'/\((∃a rest b,e=.returned (.tuple #[a,.bool true])/\kF w' a (ee (o++rest))/\jZ ts o s rest=some b/\oB ts (o++rest)/\Wn ts o s rest)\/(e=.returned (.tuple #[.slice none 0 0,.bool false])/\IK ts o s))
def yZa(ts:List eY)(r:Nat):Prop:=∀(L tb a:Nat) (b d:Value) (o:List Nat) (s:gh) (w:World),w.cell? ⟨tb,0,none⟩=some b->w.cell? ⟨a,0,none⟩=some (.func (.func 24) #[] #[.pointer (some ⟨tb,0,none⟩),.pointer (some ⟨a,0,none⟩)])->nz w L b ts->L<=w.heap.size->kF w d (ee o)->o.Nodup->(∀n∈o,n<ts.length)->jZ ts [] jv o=some s->ts.length<=o.length+r ->
 Calls Tryz.prog 24 #[d,.pointer (some ⟨tb,0,none⟩),.pointer (some ⟨a,0,none⟩)] w (NQ w ts o s)
def Mi(ts:List eY)(o:List Nat)(k:Nat):Prop:=∃a,jZ ts [] jv (o++[k])=some a
theorem yWv{s:gh}(b:jZ ts [] jv o=some s)(h:¬Mi ts o k):∀rest a,jZ ts o s (k::rest)=some a->¬oB ts (o++k::rest):=λrest a f=>by
 obtain⟨j,t,r,e,d,_⟩:=OH f;refine absurd ?_ h;refine⟨r.1,?_⟩;rw[Vr,b];simp only[cK,aa];rw[Vf j e d];rfl
theorem yCi{s a:gh}(b:jZ ts [] jv o=some s)(h:jZ ts [] jv (o++[k])=some a)(rest:List Nat):jZ ts o s (k::rest)=jZ ts (o++[k]) a rest:=by
 rw[Vr,b]at h;simp only[cK,aa]at h;have:=Vr ts [k] rest o s;rw[List.singleton_append,h]at this;exact this
theorem NQ.split{s:gh}{e:Ending}(h:NQ w ts o s e w'):∃a,∃ok:Bool,e=.returned (.tuple #[a,.bool ok])/\Mod dt w w'/\(ok=true->∃rest b,kF w' a (ee (o++rest))/\jZ ts o s rest=some b/\oB ts (o++rest)/\Wn ts o s rest)/\(ok=false->IK ts o s):=by
 obtain⟨d,⟨a,rest,b,rfl,h⟩|⟨rfl,h⟩⟩:=h
 .exact⟨a,true,rfl,d,λ_=>⟨rest,b,h⟩,λe=>(by cases e)⟩
 .exact⟨_,false,rfl,d,λe=>(by cases e),λ_=>h⟩
theorem yJo(ts:List eY)(hts:ts.length<=8)(je:∀t∈ts,t.ops.length<=200)(r:Nat)(hrec:∀r',r=r'+1->yZa ts r'):yZa ts r:=by
 intro L tb fb tv ov o s w P R ht hL hiv Z z I hr;have Q:o.length<=8:=by
  have:=dK Z (l₂:=List.range ts.length) (λx hx=>bV.2 (z x hx));simp at this;omega
 have VM:=eC (yFk L tv ov ts o w ht hL hiv Z z hts je);obtain⟨ta,gz,rfl,SV,Cl⟩:=gD.slice ht;have HIW:=eC hiv;obtain⟨S,Y,rfl,Sp,Cv,uf⟩:=hiv;have Js:=eC uf;have nW:=eC ht;have qv:=eC Z;have pH:=eC z;have Dm:=eC je;have HG:=eC I;have HREC:=eC hrec;have Bl:=eC (IL o);have Jy:=eC (Qh (ts:=ts) Z);obtain⟨i0,hi,hz0,hz1,hz2⟩:=A3 Tryz.info3;unfold maxLen at Cl Cv;have hoI:((ee o).length:Int)<=8:=by have:=IL o;omega
 clear ht uf Z z je I hrec;go_enter Tryz.func24,Tryz.ntmps24;go_wp2_with fail;refine VM.out.mono ?_;rintro e w1⟨dy,b,rfl,hb⟩
 cases b with
|true=>
  have HW:Hid (oB ts o):=(hb.1 rfl).1;have Br:Hid ((ee o).length=0\/∃p,S=some p/\∀(j:Nat) u,((ee o).map (Value.int .i64))[j]?=some u->w1.cell? (p.add j)=some u):=by
   obtain e|⟨b,off,e,hc⟩:=Js.out
   .exact .inl (by rw[e];rfl)
   .refine .inr ⟨_,e,λj u hu=>?_⟩;rw[ah]at hu
    cases hj:(ee o)[j]? with
   |none=>rw[hj]at hu;cases hu
   |some x=>
     rw[hj]at hu;simp only[bJ,ag]at hu;rw[<-hu,A1];exact dy.cell (hc j x hj) id
  have wB:Hid (((ee o).map (Value.int .i64)).length=(ee o).length*1):=by simp[Hid]
  have re:Hid (∀u∈(ee o).map (Value.int .i64),u.oneCell'=true):=λu hu=>by obtain⟨x,_,rfl⟩:=aj.1 hu;rfl
  have h63:(ee o).length<=maxLen:=by unfold maxLen;omega
  have h47:(ee o).length*8<=140737488355328:=by omega
  have fh:=eC dy;clear hb dy VM;go_wp2_with (first
  |(at_builtin;(refine zUs (w0:=w1) rfl _ _ 26 rfl 3 i0 _ 1 8 Tryz.underlying26 hi hz0 hz1 hz2 rfl (by omega) zRz rfl S (ee o).length Y ((ee o).map (Value.int .i64)) rfl wB.out Br.out re.out h63 h47 ?_))
  |fail)
  intro g c w2 hrow K;have HI:=eC (kF.iX hrow);have gy:=eC (fh.out.trans K);clear hrow K;go_wp2_with fail;go_ret2;exact⟨gy.out,.inl ⟨_,[],s,rfl,by rw[cY];exact HI.out,rfl,by rw[cY];exact HW.out,λ_ _ _ _=>trivial⟩⟩
|false=>
  have yb:Hid (¬oB ts o):=λh=>by
   have:=hb.2 (Jy.out.1 ⟨⟨s,HG.out⟩,h⟩)
   cases this
  have c1':=dy.cell P id;have fh:=eC dy;clear hb dy VM Jy;go_wp2_with fail;go_loopw [20] (λi wr=>∃k:Nat,k<=ts.length/\i=.int .i64 k/\(∀i rest B,i<k->jZ ts o s (i::rest)=some B->¬oB ts (o++i::rest))/\Mod dt w wr) (λi _=>ts.length-(intOf i).toNat)
  case atStart=>exact⟨0,aT _,rfl,λi _ _ h=>by omega,fh.out⟩
  case round=>
   clear fh c1';obtain⟨k,hk,rfl,hall,hM⟩:=hrel;obtain⟨wk,hwk⟩:∃q,q=wr:=⟨_,rfl⟩;subst hwk;have yj:=eC hall;have HM:=eC hM;have XE:=hM.size;clear hall;by_cases hlt:k<ts.length
   .have jq:(k:Int)<(ts.length:Int):=by omega
    have mT:(0:Int)<=(k:Int):=by omega
    have d1:=hM.cell P id;have d2:=hM.cell R id;clear hM;go_wp2_with fail;go_loopw [7,25] (λb p0 wx=>∃p:Nat,p<=(ee o).length/\p0=.int .i64 p/\b=.bool (decide (k∈o.take p))/\wk=wx) (λ_ p0 _=>(ee o).length-(intOf p0).toNat)
    case atStart=>exact⟨0,aT _,rfl,by simp,rfl⟩
    case round=>
     obtain⟨p,hp,rfl,rfl,rfl⟩:=hrel;by_cases Eo:p<(ee o).length
     .have hpo:p<o.length:=by have:=Bl.out;omega
      obtain⟨n,hn⟩:∃n,o[p]?=some n:=⟨_,aA hpo⟩;have uA:(ee o)[p]?=some (n:Int):=by unfold ee;rw[ah,hn];rfl
      obtain e|⟨ob,off,rfl,hcl⟩:=Js.out
      .rw[e]at Eo;simp at Eo
      have q0:=HM.out.cell (hcl p (n:Int) uA) id;have hpI:(p:Int)<((ee o).length:Int):=by omega
      have hp0:(0:Int)<=(p:Int):=by omega
      have tR:o.take (p+1)=o.take p++[n]:=by
       rw[ax hpo];rw[aA hpo]at hn;simp at hn;rw[hn]
      have zX:=eC tR;clear hn uA hcl tR;by_cases z:k∈o.take p
      .rw[aQ z];go_wp2_with fail;go_roundw
       case rel=>exact⟨p+1,by omega,by go_num,by rw[aQ (by rw[zX.out];simp[z])],by trivial⟩
       case measure=>simp[intOf];omega
      .rw[aN z];by_cases JN:n=k
       .subst JN;go_wp2_with fail;go_roundw
        case rel=>exact⟨p+1,by omega,by go_num,by rw[aQ (by rw[zX.out];simp)],by trivial⟩
        case measure=>simp[intOf];omega
       .have hnb:((n:Int)==(k:Int))=false:=by simp;omega
        go_wp2_with fail;go_roundw
        case rel=>exact⟨p+1,by omega,by go_num,by rw[aN (by rw[zX.out];simp[z];omega)],by trivial⟩
        case measure=>simp[intOf];omega
     .have hpe:o.take p=o:=by have:=Bl.out;rw[bM (by omega)]
      rw[hpe];clear hpe;obtain⟨bi,Ah⟩:∃b:Bool,b=decide (k∈o):=⟨_,rfl⟩;rw[<-Ah];have HBI:=eC Ah;clear Ah;go_upto_region 12 with fail;go_cut [47] (λv wc=>∃b:Bool,v=.bool b/\(b=false↔(k∉o/\Mi ts o k))/\Mod dt wk wc)
      case first=>
       cases bi with
      |true=>
        have z:k∈o:=of_decide_eq_true HBI.out.symm;go_region
        all_goals
         go_wp2_with fail;go_meet
         case rel=>exact⟨true,rfl,⟨λh=>(by cases h),λh=>absurd z h.1⟩,(Mod.refl dt wk).drew⟩
      |false=>
        have z:k∉o:=of_decide_eq_false HBI.out.symm;have Dw:=eC (HIW.out.mod HM.out);have zi:Hid (Mod dt wk wk.drew):=(Mod.refl dt wk).drew;have kh:=eC (ySu wk);have V:=eC (ySt wk (k:Int));have T:=eC (ySs wk (k:Int));clear P R;have P:=d1;have R:=d2;refine IJ λD E=>?_;refine IM λQ1 X=>?_;have O:∀(d:Nat) (v:Value) (c:List PanicEntry) (a:Act) (w:World),Q1 (.panic c) (a.put (some d) v) w->Q1 (.panic c) a w:=λd v c a w h=>by rw[X]at h⊢;exact h
        have ti:=eC X;clear X;have hsz:D.tmps.size=62:=by rw[E];rfl
        obtain⟨_,h0⟩:∃h:0<D.tmps.size,D.tmps[0]=.slice S (ee o).length Y:=aF.1 (by rw[E];rfl);obtain⟨_,h1⟩:∃h:1<D.tmps.size,D.tmps[1]=.pointer (some ⟨tb,0,none⟩):=aF.1 (by rw[E];rfl);obtain⟨_,h2⟩:∃h:2<D.tmps.size,D.tmps[2]=.pointer (some ⟨fb,0,none⟩):=aF.1 (by rw[E];rfl);obtain⟨_,h6⟩:∃h:6<D.tmps.size,D.tmps[6]=.int .i64 (k:Int):=aF.1 (by rw[E];rfl);obtain⟨_,h7⟩:∃h:7<D.tmps.size,D.tmps[7]=.bool false:=aF.1 (by rw[E];rfl);have kI:=eC E;clear E;refine CM 99 (λH=>Mod dt wk H) rfl ?_;refine fR 99 0 36 (.bool false) rfl rfl (λc a w h=>O _ _ c a w h) zi.out ⟨by rfl,λH A=>by have q1:=A.cell P id;have q2:=A.cell R id;go_simp⟩ ?_;refine fR 99 1 37 (.bool false) rfl rfl (λc a w h=>O _ _ c a w h) zi.out ⟨by rfl,λH A=>by have q1:=A.cell P id;have q2:=A.cell R id;go_simp⟩ ?_;refine fR 99 2 38 (.slice ta ts.length gz) rfl rfl (λc a w h=>O _ _ c a w h) zi.out ⟨by exact zA rfl rfl rfl (by go_simp),λH A=>by have q1:=A.cell P id;have q2:=A.cell R id;go_simp⟩ ?_;refine fR 99 4 40 (.slice S (ee o).length Y) rfl rfl (λc a w h=>O _ _ c a w h) zi.out ⟨by exact zA rfl rfl rfl (by go_simp),λH A=>by have q1:=A.cell P id;have q2:=A.cell R id;go_simp⟩ ?_;refine fR 99 6 42 (.int .i64 (k:Int)) rfl rfl (λc a w h=>O _ _ c a w h) zi.out ⟨by exact zA rfl rfl rfl (by go_simp),λH A=>by have q1:=A.cell P id;have q2:=A.cell R id;go_simp⟩ ?_;refine WU 99 3 39 7 43 rfl rfl rfl rfl (by kernel_rfl) (by exact zA rfl rfl rfl (by go_simp)) (by exact zA rfl rfl rfl (by go_simp)) (vi:=.slice (some ⟨wk.heap.size,0,none⟩) 0 0) (wi:=(wk.alloc (.cells #[] 3)).drew) (vj:=.slice (some ⟨wk.heap.size,0,none⟩) 1 1) (wj:=(wk.alloc (.cells #[.int .i64 (k:Int)] 3)).drew) (by go_simp) (kh.out.1) (by go_simp) (((Mod.refl dt wk).alloc _).drew) ?_ ?_
        rotate_left
        obtain⟨g,c,M,a8,c8,W8,J,G,U,C⟩:=Wt wk o k S Y Dw.out Q (wk.heap.size+1) wk.heap.size _ (wk.heap.size+1) T.out.1 T.out.2.1 T.out.2.2.1 (by omega) T.out.2.2.2 (by omega) 26 26;refine kJ 99 3 39 rfl rfl (by kernel_rfl) (by exact zA rfl rfl rfl (by go_simp)) (v:=.slice (some ⟨wk.heap.size+1,0,none⟩) 0 0) (w':=((wk.alloc (.cells #[.int .i64 (k:Int)] 3)).alloc (.cells #[] 3)).drew) (by go_simp) (T.out.1) ?_;refine kJ 99 5 41 rfl rfl (by kernel_rfl) (by exact zA rfl rfl rfl (by go_simp)) (v:=.slice (some ⟨g,0,none⟩) (ee o).length c) (w':=M) (IZ (s:=.tmp 39) (x:=.tmp 40) (t:=26) rfl (by go_simp) (by go_simp) J) (G) ?_
        rotate_left
        obtain⟨g,c,M,a8,c8,W8,J,G,U,C⟩:=ySq wk o k S Y Dw.out Q wk.heap.size _ wk.heap.size kh.out.1 kh.out.2.1 kh.out.2.2 (aD _) 26 26;refine WU 99 5 41 7 43 rfl rfl rfl rfl (by kernel_rfl) (by exact zA rfl rfl rfl (by go_simp)) (by exact zA rfl rfl rfl (by go_simp)) (vi:=.slice (some ⟨g,0,none⟩) (ee o).length c) (wi:=M) (vj:=.slice (some ⟨wk.heap.size+1,0,none⟩) 1 1) (wj:=((wk.alloc (.cells #[] 3)).alloc (.cells #[.int .i64 (k:Int)] 3)).drew) (IZ (s:=.tmp 39) (x:=.tmp 40) (t:=26) rfl (by go_simp) (by go_simp) J) (G) (by go_simp) (V.out.1) ?_ ?_
        rotate_left
        clear J G U C;obtain⟨g,c,M,a8,c8,W8,J,G,U,C⟩:=Wt wk o k S Y Dw.out Q wk.heap.size (wk.heap.size+1) _ wk.heap.size V.out.1 V.out.2.1 V.out.2.2.1 (aD _) V.out.2.2.2 (by omega) 26 26;refine kJ 99 5 41 rfl rfl (by kernel_rfl) (by exact zA rfl rfl rfl (by go_simp)) (v:=.slice (some ⟨g,0,none⟩) (ee o).length c) (w':=M) (IZ (s:=.tmp 39) (x:=.tmp 40) (t:=26) rfl (by go_simp) (by go_simp) J) (G) ?_
        rotate_left
        rotate_left
        refine kJ 99 7 43 rfl rfl (by kernel_rfl) (by exact zA rfl rfl rfl (by go_simp)) (v:=.slice (some ⟨M.heap.size,0,none⟩) 1 1) (w':=M.alloc (.cells #[.int .i64 (k:Int)] 3)) (by go_simp) (G.alloc _) ?_
        all_goals
         refine kJ 99 8 44 rfl rfl (by kernel_rfl) (by exact zA rfl rfl rfl (by go_simp)) (v:=.slice a8 ((ee o).length+1) c8) (w':=W8) (IZ (s:=.tmp 41) (x:=.tmp 43) (t:=26) rfl (by go_simp) (by go_simp) U) (C.mod) ?_;have HST:=eC (yMd L _ _ ts (o++[k]) W8 (nW.out.mod (HM.out.trans C.mod) (λ_ _=>id)) (aO hL (HM.out.trans C.mod).size) C.ints (br.2 ⟨qv.out,by simp,λa ha b hb=>by simp at hb;subst hb;exact λe=>z (e ▸ ha)⟩) (λn hn=>by rcases aM.1 hn with h|h;exact pH.out n h;simp at h;omega) hts Dm.out);refine KY 99 9 45 rfl rfl (by kernel_rfl) (by exact zA rfl rfl rfl (by go_simp)) (f:=26) (args:=#[.slice ta ts.length gz,.slice a8 ((ee o).length+1) c8]) (by go_simp) (HST.out.mono ?_);rintro e w9⟨ru,b9,rfl,Ai⟩;have N:=C.mod.trans ru;refine⟨_,rfl,N,?_⟩;refine kJ 99 10 46 rfl rfl (by kernel_rfl) (by exact zA rfl rfl rfl (by go_simp)) (v:=.bool (!b9)) (w':=w9) (by go_simp) N ?_;refine kJ 99 11 47 rfl rfl (by kernel_rfl) (by rfl) (v:=.bool (!b9)) (w':=w9) (by go_simp) N ?_;refine⟨by kernel_rfl,?_⟩;have X:=ti.out;subst X;have E:=kI.out;subst E;have HB9:Hid ((!b9)=false↔(k∉o/\Mi ts o k)):=⟨λh=>⟨z,Ai.1 (by simpa using h)⟩,λh=>by rw[Ai.2 h.2];rfl⟩;have Hu:=eC N;clear Ai ru N C J U G HST;go_wp2_with fail;go_meet
         case rel=>exact⟨_,rfl,HB9.out,Hu.out⟩
      case rest=>
       obtain⟨b,hvb,hbb,K⟩:=hcut;subst hvb;obtain⟨wz,hwz⟩:∃q,q=wc:=⟨_,rfl⟩;subst hwz;have gy:=eC (HM.out.trans K);have e1:=K.cell d1 id;have e2:=K.cell d2 id;clear K d1 d2
       cases b with
      |true=>
        have Dn:Hid (∀rest B,jZ ts o s (k::rest)=some B->¬oB ts (o++k::rest)):=λrest B h=>by
         by_cases hko:k∈o
         .exact absurd hko (OH h).1.1
         .exact yWv HG.out (λhc=>by have:=hbb.2 ⟨hko,hc⟩;cases this) rest B h
        clear hbb;go_wp2_with fail;go_roundw
        case rel=>
         refine⟨k+1,by omega,by go_num,λi rest B hi I=>?_,gy.out⟩;by_cases e:i=k
         .subst e;exact Dn.out rest B I
         .exact yj.out i rest B (by omega) I
        case measure=>simp[intOf];omega
      |false=>
        obtain⟨z,sk,hsk⟩:=hbb.1 rfl;clear hbb;have hroom:=yMm qv.out pH.out hlt z;obtain⟨r',rfl⟩:∃r',r=r'+1:=⟨r-1,by omega⟩;have Nd:=eC (HREC.out r' rfl);have YP:=eC hsk;have hlen:ts.length<=(o++[k]).length+r':=by simp;omega
        clear hsk;go_upto_region 13 with fail;go_cut [10,11] (λov2 okv wc=>∃ok:Bool,okv=.bool ok/\Mod dt wz wc/\(ok=true->∃rest s',kF wc ov2 (ee (o++k::rest))/\jZ ts o s (k::rest)=some s'/\oB ts (o++k::rest)/\yTm ts o s k (k::rest))/\(ok=false->∀rest B,jZ ts o s (k::rest)=some B->¬oB ts (o++k::rest)))
        case first=>
         have Dw:=eC (HIW.out.mod gy.out);have zi:Hid (Mod dt wz wz.drew):=(Mod.refl dt wz).drew;have kh:=eC (ySu wz);have V:=eC (ySt wz (k:Int));have T:=eC (ySs wz (k:Int));clear P R;have P:=e1;have R:=e2;refine IJ λD E=>?_;refine IM λQ1 X=>?_;have O:∀(d:Nat) (v:Value) (c:List PanicEntry) (a:Act) (w:World),Q1 (.panic c) (a.put (some d) v) w->Q1 (.panic c) a w:=λd v c a w h=>by rw[X]at h⊢;exact h
         have ti:=eC X;clear X;have hsz:D.tmps.size=62:=by rw[E];rfl
         obtain⟨_,h0⟩:∃h:0<D.tmps.size,D.tmps[0]=.slice S (ee o).length Y:=aF.1 (by rw[E];rfl);obtain⟨_,h1⟩:∃h:1<D.tmps.size,D.tmps[1]=.pointer (some ⟨tb,0,none⟩):=aF.1 (by rw[E];rfl);obtain⟨_,h2⟩:∃h:2<D.tmps.size,D.tmps[2]=.pointer (some ⟨fb,0,none⟩):=aF.1 (by rw[E];rfl);obtain⟨_,h6⟩:∃h:6<D.tmps.size,D.tmps[6]=.int .i64 (k:Int):=aF.1 (by rw[E];rfl);have kI:=eC E;clear E;refine CM 99 (λH=>Mod dt wz H) rfl ?_;refine fR 99 0 49 (.func (.func 24) #[] #[.pointer (some ⟨tb,0,none⟩),.pointer (some ⟨fb,0,none⟩)]) rfl rfl (λc a w h=>O _ _ c a w h) zi.out ⟨by rfl,λH A=>by have q1:=A.cell P id;have q2:=A.cell R id;go_simp⟩ ?_;refine fR 99 2 51 (.slice S (ee o).length Y) rfl rfl (λc a w h=>O _ _ c a w h) zi.out ⟨by rfl,λH A=>by have q1:=A.cell P id;have q2:=A.cell R id;go_simp⟩ ?_;refine fR 99 4 53 (.int .i64 (k:Int)) rfl rfl (λc a w h=>O _ _ c a w h) zi.out ⟨by rfl,λH A=>by have q1:=A.cell P id;have q2:=A.cell R id;go_simp⟩ ?_;refine WU 99 1 50 5 54 rfl rfl rfl rfl (by kernel_rfl) (by rfl) (by rfl) (vi:=.slice (some ⟨wz.heap.size,0,none⟩) 0 0) (wi:=(wz.alloc (.cells #[] 3)).drew) (vj:=.slice (some ⟨wz.heap.size,0,none⟩) 1 1) (wj:=(wz.alloc (.cells #[.int .i64 (k:Int)] 3)).drew) (by go_simp) (kh.out.1) (by go_simp) (((Mod.refl dt wz).alloc _).drew) ?_ ?_
         rotate_left
         obtain⟨g,c,M,a8,c8,W8,J,G,U,C⟩:=Wt wz o k S Y Dw.out Q (wz.heap.size+1) wz.heap.size _ (wz.heap.size+1) T.out.1 T.out.2.1 T.out.2.2.1 (by omega) T.out.2.2.2 (by omega) 26 26;refine kJ 99 1 50 rfl rfl (by kernel_rfl) (by rfl) (v:=.slice (some ⟨wz.heap.size+1,0,none⟩) 0 0) (w':=((wz.alloc (.cells #[.int .i64 (k:Int)] 3)).alloc (.cells #[] 3)).drew) (by go_simp) (T.out.1) ?_;refine kJ 99 3 52 rfl rfl (by kernel_rfl) (by rfl) (v:=.slice (some ⟨g,0,none⟩) (ee o).length c) (w':=M) (IZ (s:=.tmp 50) (x:=.tmp 51) (t:=26) rfl (by go_simp) (by go_simp) J) (G) ?_
         rotate_left
         obtain⟨g,c,M,a8,c8,W8,J,G,U,C⟩:=ySq wz o k S Y Dw.out Q wz.heap.size _ wz.heap.size kh.out.1 kh.out.2.1 kh.out.2.2 (aD _) 26 26;refine WU 99 3 52 5 54 rfl rfl rfl rfl (by kernel_rfl) (by rfl) (by rfl) (vi:=.slice (some ⟨g,0,none⟩) (ee o).length c) (wi:=M) (vj:=.slice (some ⟨wz.heap.size+1,0,none⟩) 1 1) (wj:=((wz.alloc (.cells #[] 3)).alloc (.cells #[.int .i64 (k:Int)] 3)).drew) (IZ (s:=.tmp 50) (x:=.tmp 51) (t:=26) rfl (by go_simp) (by go_simp) J) (G) (by go_simp) (V.out.1) ?_ ?_
         rotate_left
         clear J G U C;obtain⟨g,c,M,a8,c8,W8,J,G,U,C⟩:=Wt wz o k S Y Dw.out Q wz.heap.size (wz.heap.size+1) _ wz.heap.size V.out.1 V.out.2.1 V.out.2.2.1 (aD _) V.out.2.2.2 (by omega) 26 26;refine kJ 99 3 52 rfl rfl (by kernel_rfl) (by rfl) (v:=.slice (some ⟨g,0,none⟩) (ee o).length c) (w':=M) (IZ (s:=.tmp 50) (x:=.tmp 51) (t:=26) rfl (by go_simp) (by go_simp) J) (G) ?_
         rotate_left
         rotate_left
         refine kJ 99 5 54 rfl rfl (by kernel_rfl) (by rfl) (v:=.slice (some ⟨M.heap.size,0,none⟩) 1 1) (w':=M.alloc (.cells #[.int .i64 (k:Int)] 3)) (by go_simp) (G.alloc _) ?_
         all_goals
          refine kJ 99 6 55 rfl rfl (by kernel_rfl) (by rfl) (v:=.slice a8 ((ee o).length+1) c8) (w':=W8) (IZ (s:=.tmp 52) (x:=.tmp 54) (t:=26) rfl (by go_simp) (by go_simp) U) (C.mod) ?_;have HTR:=eC (Nd.out L tb fb _ _ (o++[k]) sk W8 (C.mod.cell e1 id) (C.mod.cell e2 id) (nW.out.mod (gy.out.trans C.mod) (λ_ _=>id)) (aO hL (gy.out.trans C.mod).size) C.ints (br.2 ⟨qv.out,by simp,λa ha b hb=>by simp at hb;subst hb;exact λe=>z (e ▸ ha)⟩) (λn hn=>by rcases aM.1 hn with h|h;exact pH.out n h;simp at h;omega) YP.out hlen);refine KY 99 7 56 rfl rfl (by kernel_rfl) (by rfl) (f:=24) (args:=#[.slice a8 ((ee o).length+1) c8,.pointer (some ⟨tb,0,none⟩),.pointer (some ⟨fb,0,none⟩)]) (by go_simp) (HTR.out.mono ?_);intro e w9 h9;obtain⟨XB,Rw,rfl,ru,hy9,hn9⟩:=h9.split;have N:=C.mod.trans ru;refine⟨_,rfl,N,?_⟩;refine fR 99 8 48 (.tuple #[XB,.bool Rw]) rfl rfl (λc a w h=>O _ _ c a w h) N ⟨by rfl,λH A=>by go_simp⟩ ?_;refine fR 99 9 57 (XB) rfl rfl (λc a w h=>O _ _ c a w h) N ⟨by rfl,λH A=>by go_simp⟩ ?_;refine fR 99 10 58 (.bool Rw) rfl rfl (λc a w h=>O _ _ c a w h) N ⟨by rfl,λH A=>by go_simp⟩ ?_;refine fR 99 11 10 (XB) rfl rfl (λc a w h=>O _ _ c a w h) N ⟨by rfl,λH A=>by go_simp⟩ ?_;refine fR 99 12 11 (.bool Rw) rfl rfl (λc a w h=>O _ _ c a w h) N ⟨by rfl,λH A=>by go_simp⟩ ?_;refine⟨by kernel_rfl,?_⟩;have X:=ti.out;subst X;have E:=kI.out;subst E;have HY9:Hid (Rw=true->∃rest s',kF w9 XB (ee (o++k::rest))/\jZ ts o s (k::rest)=some s'/\oB ts (o++k::rest)/\yTm ts o s k (k::rest)):=λh=>by
           obtain⟨rest,s',k1,k2,k3,k4⟩:=hy9 h;refine⟨rest,s',by simpa using k1,by rw[yCi HG.out YP.out];exact k2,by simpa using k3,rest,rfl,λr' B I hw=>?_⟩;rw[yCi HG.out YP.out]at I;exact k4 r' B I (by simpa using hw)
          have HN9:Hid (Rw=false->∀rest B,jZ ts o s (k::rest)=some B->¬oB ts (o++k::rest)):=λh rest B I=>by
           rw[yCi HG.out YP.out]at I;have:=hn9 h rest B I;simpa using this
          have Hu:=eC N;clear hy9 hn9 ru N C J U G HTR;go_wp2_with fail;go_meet
          case rel=>exact⟨_,rfl,Hu.out,HY9.out,HN9.out⟩
        case rest=>
         obtain⟨ok,hok,eK,LU,hno⟩:=hcut;subst hok;have jC:=eC (gy.out.trans eK)
         cases ok with
        |true=>
          obtain⟨rest,s',k1,k2,k3,k4⟩:=LU rfl;have HK:=eC (And.intro k1 (And.intro k2 (And.intro k3 k4)));clear k1 k2 k3 k4 LU hno eK;go_wp2_with fail;go_ret2;exact⟨jC.out,.inl ⟨_,k::rest,s',rfl,HK.out.1,HK.out.2.1,HK.out.2.2.1,yQx yb.out yj.out HK.out.2.2.2⟩⟩
        |false=>
          have Dn:=eC (hno rfl);clear LU hno eK;go_wp2_with fail;go_roundw
          case rel=>
           refine⟨k+1,by omega,by go_num,λi rest B hi I=>?_,jC.out⟩;by_cases e:i=k
           .subst e;exact Dn.out rest B I
           .exact yj.out i rest B (by omega) I
          case measure=>simp[intOf];omega
   .clear hM;go_wp2_with fail;go_ret2;exact⟨HM.out,.inr ⟨rfl,yHs yb.out (λi rest B hi I=>yj.out i rest B (by omega) I)⟩⟩
theorem yPb(ts:List eY)(a:ts.length<=8)(d:∀t∈ts,t.ops.length<=200):∀r,yZa ts r
|0=>yJo ts a d 0 (λb h=>by omega)
|r+1=>yJo ts a d (r+1) (λb h=>by
   obtain rfl:b=r:=by omega
   exact yPb ts a d b)
theorem kF.bare(w:World):kF w (.slice none 0 0) []:=⟨none,0,rfl,aD _,aT _,.inl rfl⟩
def RefP(w:World)(ts:List eY)(e:Ending)(w':World):Prop:=
 Mod dt w w'/\((∃a o s,e=.returned (.tuple #[a,.bool true])/\kF w' a (ee o)/\jZ ts [] jv o=some s/\oB ts o/\Wn ts [] jv o)\/(e=.returned (.tuple #[.slice none 0 0,.bool false])/\IK ts [] jv))
theorem yBi(L:Nat)(tv:Value)(ts:List eY)(w:World)(ht:nz w L tv ts)(M:L<=w.heap.size)(j:ts.length<=8)(H:∀t∈ts,t.ops.length<=200) :
  Calls Tryz.prog 8 #[tv] w (RefP w ts):=by
 obtain⟨a,b,rfl,K,J⟩:=gD.slice ht;have Q:∀D first b w,(Instr.makeFunc D first b).run Tryz.prog w=.ok (.func D first b) w:=λ_ _ _ _=>rfl
 have S:=eC ht;obtain⟨fv,sQ⟩:∃q:Value,q=.func (.func 24) #[] #[.pointer (some ⟨w.heap.size,0,none⟩),.pointer (some ⟨w.heap.size+1,0,none⟩)]:=⟨_,rfl⟩;have r:dx ((w.alloc (.cells #[.slice a ts.length b] 29)).alloc (.cells #[.nilFunc] 70)) (w.heap.size+1) [.nilFunc] 70:=by
  have:=dx.new (w.alloc (.cells #[.slice a ts.length b] 29)) [.nilFunc] 70;simpa using this
 obtain⟨w2,hw2⟩:∃q,q=((w.alloc (.cells #[.slice a ts.length b] 29)).alloc (.cells #[.nilFunc] 70)).setCell ⟨w.heap.size+1,0,none⟩ fv:=⟨_,rfl⟩;have I:(store ⟨w.heap.size+1,0,none⟩ (.func (.func 24) #[] #[.pointer (some ⟨w.heap.size,0,none⟩),.pointer (some ⟨w.heap.size+1,0,none⟩)])).run Tryz.prog ((w.alloc (.cells #[.slice a ts.length b] 29)).alloc (.cells #[.nilFunc] 70))=.ok () w2:=by
  rw[<-sQ,hw2,run_store Tryz.prog _ _ _ _ (by rw[sQ];rfl)];simp only[r.cell 0 rfl,r.frozen 0];rfl
 have d:Mod dt w w2:=by rw[hw2];exact(((Mod.refl dt w).alloc _).alloc _).setCell (p:=⟨w.heap.size+1,0,none⟩) (λh=>by simp at h;omega) _
 have n:dx w2 w.heap.size [.slice a ts.length b] 29:=by rw[hw2];exact((dx.new w [.slice a ts.length b] 29).mod ((Mod.refl dt _).alloc _) id).mod (Mod.eE (w.heap.size+1) 0 _) (λe=>by simp only[eQ]at e;omega)
 have f:dx w2 (w.heap.size+1) [.func (.func 24) #[] #[.pointer (some ⟨w.heap.size,0,none⟩),.pointer (some ⟨w.heap.size+1,0,none⟩)]] 70:=by rw[hw2,<-sQ];exact r.set 0 fv
 have x:=eC (yPb ts j H 8 L w.heap.size (w.heap.size+1) _ (.slice none 0 0) [] jv w2 (n.cell 0 rfl) (f.cell 0 rfl) (ht.mod d (λ_ _=>id)) (aO M d.size) (kF.bare _) (by simp) (by simp) rfl (by simpa using j));have C:=eC d;have R:=f.cell 0 rfl;clear ht d n f r hw2 sQ;go_enter Tryz.func8,Tryz.ntmps8;go_wp2_with fail;refine x.out.mono ?_;rintro e P⟨u,⟨G,rest,E,rfl,B,A,z,k4⟩|⟨rfl,l⟩⟩
 .have v:=eC (C.out.trans u);have O:=eC (And.intro B (And.intro A (And.intro z k4)));clear B A z k4 u;go_wp2_with fail;go_ret2;exact⟨v.out,.inl ⟨G,rest,E,rfl,O.out⟩⟩
 .have v:=eC (C.out.trans u);have N:=eC l;clear u l;go_wp2_with fail;go_ret2;exact⟨v.out,.inr ⟨rfl,N.out⟩⟩
theorem yTw{t:eY}(h:t∈lZ s):t∈s.U:=by
 obtain⟨i,b⟩:=aP h;obtain⟨j,_,a⟩:=Qr b;exact aC a
theorem yJp(s:eF):(lZ s).length<=s.U.length:=by rw[<-yDb];exact yDa _ _
theorem nZ.tick(h:nZ W F gs g c s y xv vs w)(t:Int):nZ W F gs g c {s with now:=t} y xv vs (w.setCell ⟨gs,2,none⟩ (.int .i64 t)):=by
 have a:Mod (eQ gs) w (w.setCell ⟨gs,2,none⟩ (.int .i64 t)):=Mod.eE gs 2 _;have d:=h.gl;exact⟨h.md.trans' a (λk b e=>by have f:k=gs:=e;omega),h.fJ.tick h.gl t,h.gl,λk b=>(have q:=h.side k b;⟨aJ q.1 a.size,q.2⟩)⟩
def EE(W:World)(gs g m:Nat)(s:eF)(wr:World):Prop:=∃h y xv vs a,a<=m+10/\EH a s [] h/\nZ W (λ_=>False) gs g (2*m+4) ⟨h,s.U,s.now+1,s.safe,s.nodes⟩ y xv vs wr
theorem yQy(z:BL W gs g m s s.U.length w4)(a:∀j,1<=j->j<=s.U.length->(s.h.I j).state≠2)(hE:ET W)(n:1<W.heap.size)(C:m<=120)(A:s.U.length<=7) :
  Calls Tryz.prog 13 #[.pointer (some ⟨g,0,none⟩)] (w4.setCell ⟨gs,2,none⟩ (.int .i64 (s.now+1))) λe w'=>e=.returned (.tuple #[.int .i64 ((s.U.length:Int)+1),.nilIface])/\EE W gs g m s w':=by
 obtain⟨h,y,xv,vs,p,u,l,v⟩:=z;have B:=v.tick (s.now+1);have x:=l.begin A a;have t:zm W (2*m+4) p ⟨h,s.U,s.now+1,s.safe,s.nodes⟩:=⟨l.tail,hE,n,by omega,by omega⟩;have d:=nZ.begin (s:=⟨h,s.U,s.now+1,s.safe,s.nodes⟩) B t;dsimp only at d;rw[l.tl]at d;refine d.mono ?_;rintro e w'⟨rfl,⟨q,r,b,f⟩,-⟩;exact⟨rfl,_,q,r,b,p+1,by omega,x,f⟩
theorem EE.cells(d:EE W gs g m s wr):gs<wr.heap.size/\wr.cell? ⟨gs,0,none⟩=some (.pointer (some ⟨g,0,none⟩))/\wr.cell? ⟨gs,2,none⟩=some (.int .i64 (s.now+1)):=by
 obtain⟨h,y,xv,vs,j,b,l,a⟩:=d;obtain⟨f,n,e,-,-⟩:=gb a.fJ.Z;exact⟨a.fJ.Z.lt,f,e⟩
theorem BL.AO(d:BL W gs g m s i w4)(t:Int):(w4.setCell ⟨gs,2,none⟩ (.int .i64 t)).cell? ⟨gs,0,none⟩=some (.pointer (some ⟨g,0,none⟩))/\gs<(w4.setCell ⟨gs,2,none⟩ (.int .i64 t)).heap.size:=by
 obtain⟨h,y,xv,vs,e,a,f,b⟩:=d;have q:=(b.tick t).fJ.Z;exact⟨(gb q).1,q.lt⟩
theorem fI.zV{n:Nat}{G:Nat->Prop}(h:fI w n c gs g y xv vs s)(b:Mod G w w')(r:Qm w (y.lo n) G)(d:∀k,k<w.heap.size->G k->y.own k=.no/\¬zz gs xv vs k):fI w' n c gs g y xv vs s:=by
 have lt:∀{v:Value} {B p m:Nat} {e:TypeId} {l:List Value},w.ownsRow B e p v m l->∀k,v.ownBlock=some k->k<w.heap.size:=λq k a=>(fs q a).2.1;refine⟨h.Z.mod b (λe=>(d gs h.Z.lt e).2 (.inl rfl)),h.house.beside b r (λk a e=>(d k a e).1),h.row.mod b (λk a e=>(d k (lt h.row.2 k a) e).2 (.inr (.inl a))),λi t u j f=>(h.ops i t u j f).mod b (λk a e=>?_),h.no,h.JC,h.Fz,h.apart⟩;exact(d k (lt (h.ops i t u j f) k a) e).2 (.inr (.inr ⟨u,aC f,a⟩))
def Ki(lb:Nat)(a:Value)(k:Nat):Prop:=k=lb\/a.ownBlock=some k
theorem nZ.fresh(h:nZ W F gs g c s y xv vs w)(a:w.heap.size<=k):y.own k=.no/\¬zz gs xv vs k:=by
 refine⟨?_,λe=>by have:=(h.fJ.cells h.gl e).2.1;omega⟩;by_cases e:y.own k=.no
 .exact e
 .have:=(h.fJ.house.own.lt k e).2;omega
structure VY(W:World)(gs g m lb:Nat)(s:eF)(i:Nat)(ops:List fm)(wr:World)(h:dp)(y:dq)(xv:Value)(vs:List Value)(m':Nat)(ov:Value)(told:List fm)(fN:Int):Prop where
 le:m'<=m+20+i
 SD:EH m' s told h
 tl:nZ W (Ki lb ov) gs g (2*m+4+2*i) ⟨h,s.U,s.now+1,s.safe,s.nodes⟩ y xv vs wr
 Z:dx wr lb [ov,.int .i64 (s.now+1),.int .i64 fN] 46
 row:nG wr W.heap.size ov ops
 lw:W.heap.size<=lb
def yp(W:World)(gs g m lb:Nat)(s:eF)(i:Nat)(wr:World):Prop:=∃a h y xv vs d b,a.length=i/\VY W gs g m lb s i a wr h y xv vs d b a 0
theorem EE.gets(hB:EE W gs g m s w):yp W gs g m w.heap.size s 0 (w.alloc (.cells #[.slice none 0 0,.int .i64 (s.now+1),.int .i64 0] 46)):=by
 obtain⟨h,y,xv,vs,e,f,l,d⟩:=hB;have j:Mod dt w (w.alloc (.cells #[.slice none 0 0,.int .i64 (s.now+1),.int .i64 0] 46)):=(Mod.refl _ _).alloc _;have a:=d.quiet j;refine⟨[],h,y,xv,vs,e,.slice none 0 0,rfl,by omega,l,⟨a.md,a.fJ,a.gl,λk b=>?_⟩,dx.new w _ _,A6 _ _ _ _,d.md.size⟩;obtain rfl|b:=b
 .exact⟨by rw[A4];omega,d.fresh (aD _)⟩
 .cases b
theorem yp.get(H:yp W gs g m lb s i wr)(L:i<4)(hE:ET W)(u:1<W.heap.size)(K:m<=120)(key:ByteArray)(t:key.size<=20) :
  Calls Tryz.prog 14 #[.pointer (some ⟨g,0,none⟩),.int .i64 ((s.U.length:Int)+1),.string key] wr λe w'=>∃v z,e=.returned (.tuple #[.string v,.bool z,.nilIface])/\Mod dt W w'/\∃a h y xv vs f d,a.length=i/\f<=m+20+(i+1)/\EH f s (a++[⟨1,key,v,z⟩]) h/\nZ W (Ki lb d) gs g (2*m+4+2*(i+1)) ⟨h,s.U,s.now+1,s.safe,s.nodes⟩ y xv vs w'/\dx w' lb [d,.int .i64 (s.now+1),.int .i64 0] 46/\nG w' W.heap.size d a/\W.heap.size<=lb:=by
 obtain⟨a,h,y,xv,vs,f,d,E,b⟩:=H;have D:=b.le;obtain⟨J,I⟩:=b.SD.get t;have C:zm W (2*m+4+2*i) f ⟨h,s.U,s.now+1,s.safe,s.nodes⟩:=⟨b.SD.tail,hE,u,by omega,by omega⟩;have r:gP key:=by unfold gP maxLen;omega
 have n:=b.tl.get C ((s.U.length+1:Nat):Int) key r;dsimp only at n;have G:((s.U.length:Int)+1)=((s.U.length+1:Nat):Int):=by omega
 rw[G];rw[J]at n;have j:jP 0=.nilIface:=pM;rw[j]at n;refine n.mono ?_;rintro e w'⟨rfl,⟨A,B,p,l⟩,x⟩;exact⟨_,_,rfl,l.md,a,_,A,B,p,f+1,d,E,by omega,I,l,b.Z.mod x (λq=>q (.inl rfl)),b.row.mod x (λk t q=>q (.inr t)),b.lw⟩
theorem yRp{C:Nat}{u:World}{f:List fm}{o:fm}{h:dp}{l n:Value}(M:f.length=i)(D:C<=m+20+(i+1))(P:EH C s (f++[o]) h)(v:nZ W (Ki lb l) gs g (2*m+4+2*(i+1)) ⟨h,s.U,s.now+1,s.safe,s.nodes⟩ y xv vs w)(hB:dx w lb [l,.int .i64 (s.now+1),.int .i64 0] 46)(O:nG w W.heap.size l f)(I:W.heap.size<=lb)
  (J:Mod (λk=>l.ownBlock=some k) w u) (p:nG u W.heap.size n (f++[o])) (A:∀k,n.ownBlock=some k->l.ownBlock=some k\/w.heap.size<=k):yp W gs g m lb s (i+1) (u.setCell ⟨lb,0,none⟩ n):=by
 have H:∀k,l.ownBlock=some k->W.heap.size<=k/\k<w.heap.size/\∃j,w.heap[k]?=some (.cells j 51 (0,0)):=λk d=>by
  obtain⟨a,b,j,x⟩:=fs O d;exact⟨a,b,j,x⟩
 have z:∀k,l.ownBlock=some k->k≠lb:=λk d e=>by
  obtain⟨_,_,j,x⟩:=H k d;have N:w.heap[lb]?=some (.cells [l,.int .i64 (s.now+1),.int .i64 0].toArray 46 (0,0)):=hB;rw[e,N]at x;simp at x
 have B:Mod (eQ lb) u (u.setCell ⟨lb,0,none⟩ n):=Mod.eE lb 0 _;have L:=hB.lt;have E:Mod (Ki lb l) w (u.setCell ⟨lb,0,none⟩ n):=(J.mono (λ_ _ e=>.inr e)).trans (B.mono (λ_ _ e=>.inl e));have R:Qm w (y.lo W.heap.size) (Ki lb l):=λk d e=>by
  obtain rfl|e:=e
  .exact Wk (t:=46) (show w.heap[k]?=_ from hB) (by decide) I
  .obtain⟨a,_,j,x⟩:=H k e;exact Wk x (by decide) a
 have G:∀k,n.ownBlock=some k->k≠lb:=λk d e=>by
  rcases A k d with q|q
  .exact z k q e
  .omega
 refine⟨f++[o],h,y,xv,vs,C,n,by rw[aE,M];rfl,D,P,⟨v.md.trans' E (λk d e=>?_),v.fJ.zV E R (λk d e=>(v.side k e).2),v.gl,λk d=>?_⟩,?_,p.mod B (λk d e=>G k d e),I⟩
 .obtain rfl|e:=e
  .omega
  .have:=(H k e).1;omega
 .have K:=E.size;obtain rfl|d:=d
  .have q:=v.side k (.inl rfl);exact⟨by omega,q.2⟩
  .rcases A k d with q|q
   .have r:=v.side k (.inr q);exact⟨by omega,r.2⟩
   .have Q:k<u.heap.size:=(fs p d).2.1;exact⟨aJ Q B.size,v.fresh q⟩
 .have:=(hB.mod J (λe=>z lb e rfl)).set 0 n;exact this
end Go.Proofs.YtmaiggbnceejiaaGreatDoor
namespace Go.Proofs.YtmaiggbnceejiaaGreatDoor
open Go.RowKit Go.Lib Go.Maps
theorem yp.cells{W:World}{b g m lb:Nat}{s:eF}{i:Nat}{wr:World}(d:yp W b g m lb s i wr):Mod dt W wr/\b<wr.heap.size/\wr.cell? ⟨b,0,none⟩=some (.pointer (some ⟨g,0,none⟩)):=by
 obtain⟨c,h,y,e,f,k,j,l,a⟩:=d;exact⟨a.tl.md,a.tl.fJ.Z.lt,(gb a.tl.fJ.Z).1⟩
theorem lasB(c0 c1 c2 c3 c4 c6 c7 c9 c12 c13 c14 c15 c16 c17 c18 c19 c20 c21 NM NL NK NJ NI Gy NH NG Jk NF QA Pz Py Px Pw Pv Pu Pt Ps Pr Pq Pp Po Pn Pm Pk Pj c49 Ph c51 Pg Pf Pe Pd Pc Pb Pa ND NC NB NA Mz My Mx Mw Gx Mv Mu Mt Ms Mr Mq Mp Mo Mn Mm Ml Mk Mj YK YJ YI YH YG YF YE YD YC YB YA Xz Xy Xx Xw Xv Xu Xt Xs Hn Hm Hl Hk Hj Hi Hh Hg Hf He Hd Hc Hb Ha Gz yS yR yQ yP K yO yN yM yL yK yJ yI yH yG yF yE yD yC yB xz xy xx xw J xu xt xr xq xp xo xm xl xk xj xh xg xf xe xd xc xZ xY xX xW xV xU xT xS xR:Value)(W:World)(D g m lb n no F:Nat)(s:eF)(w:World)(h1W:1<W.heap.size)(rT:m<=120)(HE:Hid (ET W))(n0:0<W.heap.size)(n1:n<W.heap.size)
  (Ht:Hid (W.cell? ⟨0,0,none⟩=some (.slice (some ⟨n,no,none⟩) 4 F))) (vz:Hid (∀i,i<4->W.cell? ⟨n,no+i,none⟩=some (.string (nameK i)))) (H0:Hid (yp W D g m lb s 0 w)) {R:Act->World->Prop}
  (hN:∀(u4 u11 u12 u13 u14 u81 u82 u83 u84 u85 u86 u87 u88 u89 u90 u91 u92 u93 u94 u95 u96 u97 u98 u99 u100 u101 u102 u103 u104 u105 u106 u107 u108 u109 u110 u111 u112 u113 u114:Value) (wd:World),yp W D g m lb s 4 wd->R ⟨#[c0,c1,c2,c3,u4,.pointer (some ⟨D,0,none⟩),c6,c7,.int .i64 ((s.U.length:Int)+1),c9,.pointer (some ⟨lb,0,none⟩),u11,u12,u13,u14,c15,c16,c17,c18,c19,c20,c21,NM,NL,NK,NJ,NI,Gy,NH,NG,Jk,NF,QA,Pz,Py,Px,Pw,Pv,Pu,Pt,Ps,Pr,Pq,Pp,Po,Pn,Pm,Pk,Pj,c49,Ph,c51,Pg,Pf,Pe,Pd,Pc,Pb,Pa,ND,NC,NB,NA,Mz,My,Mx,Mw,Gx,Mv,Mu,Mt,Ms,Mr,Mq,Mp,Mo,Mn,Mm,Ml,Mk,Mj,u81,u82,u83,u84,u85,u86,u87,u88,u89,u90,u91,u92,u93,u94,u95,u96,u97,u98,u99,u100,u101,u102,u103,u104,u105,u106,u107,u108,u109,u110,u111,u112,u113,u114,yS,yR,yQ,yP,K,yO,yN,yM,yL,yK,yJ,yI,yH,yG,yF,yE,yD,yC,yB,xz,xy,xx,xw,J,xu,xt,xr,xq,xp,xo,xm,xl,xk,xj,xh,xg,xf,xe,xd,xc,xZ,xY,xX,xW,xV,xU,xT,xS,xR],[]⟩ wd) :
  Code.wp Tryz.prog ((Tryz.f4.body.bind (CK 3)).getD .skip) (wG R) ⟨#[c0,c1,c2,c3,c4,.pointer (some ⟨D,0,none⟩),c6,c7,.int .i64 ((s.U.length:Int)+1),c9,.pointer (some ⟨lb,0,none⟩),.int .i64 0,c12,c13,c14,c15,c16,c17,c18,c19,c20,c21,NM,NL,NK,NJ,NI,Gy,NH,NG,Jk,NF,QA,Pz,Py,Px,Pw,Pv,Pu,Pt,Ps,Pr,Pq,Pp,Po,Pn,Pm,Pk,Pj,c49,Ph,c51,Pg,Pf,Pe,Pd,Pc,Pb,Pa,ND,NC,NB,NA,Mz,My,Mx,Mw,Gx,Mv,Mu,Mt,Ms,Mr,Mq,Mp,Mo,Mn,Mm,Ml,Mk,Mj,YK,YJ,YI,YH,YG,YF,YE,YD,YC,YB,YA,Xz,Xy,Xx,Xw,Xv,Xu,Xt,Xs,Hn,Hm,Hl,Hk,Hj,Hi,Hh,Hg,Hf,He,Hd,Hc,Hb,Ha,Gz,yS,yR,yQ,yP,K,yO,yN,yM,yL,yK,yJ,yI,yH,yG,yF,yE,yD,yC,yB,xz,xy,xx,xw,J,xu,xt,xr,xq,xp,xo,xm,xl,xk,xj,xh,xg,xf,xe,xd,xc,xZ,xY,xX,xW,xV,xU,xT,xS,xR],[]⟩ w:=by
 conv=>arg 2;whnf
 have HN:=dk hN;clear hN;go_wp2_with fail;go_loopw [11] (λi0 wr=>∃i:Nat,i<=4/\i0=.int .i64 i/\yp W D g m lb s i wr) (λi0 _=>4-(intOf i0).toNat)
 case atStart=>exact⟨0,aT _,rfl,H0.out⟩
 case round=>
  obtain⟨i,hil,rfl,hI⟩:=hrel;clear H0;obtain⟨iZ,zg,d0⟩:=hI.cells;have m2:=iZ.cell Ht.out id;by_cases T:i<4
  .have m3:=iZ.cell (vz.out i T) id;have hi0:(0:Int)<=(i:Int):=by omega
   have zP:(i:Int)<4:=by omega
   have QP:Hid (∀j,Mod dt wr j->yp W D g m lb s i j):=λj b=>by
    obtain⟨Y,h,y,xv,vs,m',ov,hl,hP⟩:=hI;exact⟨Y,h,y,xv,vs,m',ov,hl,hP.le,hP.SD,hP.tl.quiet b,hP.Z.mod b id,hP.row.mod b (λ_ _=>id),hP.lw⟩
   have V:Hid (wr.drew.cell? ⟨D,0,none⟩=some (.pointer (some ⟨g,0,none⟩))/\wr.drew.cell? ⟨0,0,none⟩=some (.slice (some ⟨n,no,none⟩) 4 F)/\wr.drew.cell? ⟨n,no+i,none⟩=some (.string (nameK i))):=⟨d0,m2,m3⟩;clear hI d0 m3 iZ;go_upto_region 22 with fail;clear m2;refine IJ λE I=>?_;refine IM λQ1 Q=>?_;have o:∀(d:Nat) (v:Value) (c:List PanicEntry) (a:Act) (w:World),Q1 (.panic c) (a.put (some d) v) w->Q1 (.panic c) a w:=λd v c a w h=>by rw[Q]at h⊢;exact h
   have ti:=dk Q;clear Q;have hsz:E.tmps.size=164:=by rw[I];rfl
   obtain⟨_,t5⟩:∃h:5<E.tmps.size,E.tmps[5]=.pointer (some ⟨D,0,none⟩):=aF.1 (by rw[I];rfl);obtain⟨_,t8⟩:∃h:8<E.tmps.size,E.tmps[8]=.int .i64 ((s.U.length:Int)+1):=aF.1 (by rw[I];rfl);obtain⟨_,t11⟩:∃h:11<E.tmps.size,E.tmps[11]=.int .i64 i:=aF.1 (by rw[I];rfl);have kI:=dk I;clear I;refine CM 99 (λj=>j.cell? ⟨D,0,none⟩=some (.pointer (some ⟨g,0,none⟩))/\j.cell? ⟨0,0,none⟩=some (.slice (some ⟨n,no,none⟩) 4 F)/\j.cell? ⟨n,no+i,none⟩=some (.string (nameK i))) rfl ?_;refine fR 99 0 88 (.pointer (some ⟨D,0,none⟩)) rfl rfl (λc a w h=>o _ _ c a w h) V.out ⟨by rfl,λj b=>by obtain⟨C,B,z⟩:=b;go_simp⟩ ?_;refine fR 99 1 89 (.pointer (some ⟨D,0,none⟩)) rfl rfl (λc a w h=>o _ _ c a w h) V.out ⟨by rfl,λj b=>by obtain⟨C,B,z⟩:=b;go_simp⟩ ?_;refine fR 99 2 90 (.pointer (some ⟨D,0,none⟩)) rfl rfl (λc a w h=>o _ _ c a w h) V.out ⟨by rfl,λj b=>by obtain⟨C,B,z⟩:=b;go_simp⟩ ?_;refine fR 99 3 91 (.pointer (some ⟨g,0,none⟩)) rfl rfl (λc a w h=>o _ _ c a w h) V.out ⟨by rfl,λj b=>by obtain⟨C,B,z⟩:=b;go_simp⟩ ?_;refine fR 99 4 92 (.int .i64 ((s.U.length:Int)+1)) rfl rfl (λc a w h=>o _ _ c a w h) V.out ⟨by rfl,λj b=>by obtain⟨C,B,z⟩:=b;go_simp⟩ ?_;refine fR 99 5 93 (.slice (some ⟨n,no,none⟩) 4 F) rfl rfl (λc a w h=>o _ _ c a w h) V.out ⟨by rfl,λj b=>by obtain⟨C,B,z⟩:=b;go_simp⟩ ?_;refine fR 99 6 94 (.int .i64 i) rfl rfl (λc a w h=>o _ _ c a w h) V.out ⟨by rfl,λj b=>by obtain⟨C,B,z⟩:=b;go_simp⟩ ?_;refine fR 99 7 95 (.pointer (some ⟨n,no+i,none⟩)) rfl rfl (λc a w h=>o _ _ c a w h) V.out ⟨by rfl,λj b=>by obtain⟨C,B,z⟩:=b;go_simp⟩ ?_;refine fR 99 8 96 (.string (nameK i)) rfl rfl (λc a w h=>o _ _ c a w h) V.out ⟨by rfl,λj b=>by obtain⟨C,B,z⟩:=b;go_simp⟩ ?_;refine KY 99 9 97 rfl rfl (by kernel_rfl) (by rfl) (f:=14) (args:=#[.pointer (some ⟨g,0,none⟩),.int .i64 ((s.U.length:Int)+1),.string (nameK i)]) (by go_simp) (((QP.out _ ((Mod.refl _ _).drew)).get T HE.out h1W rT (nameK i) (by rw[zZg];omega)).mono ?_);rintro e l⟨v,r,rfl,fA,Y,h,y,xv,vs,m',ov,hl,hle,hG,hT,hB,hR,sj⟩;have M:Hid (l.cell? ⟨D,0,none⟩=some (.pointer (some ⟨g,0,none⟩))/\l.cell? ⟨0,0,none⟩=some (.slice (some ⟨n,no,none⟩) 4 F)/\l.cell? ⟨n,no+i,none⟩=some (.string (nameK i))):=⟨(gb hT.fJ.Z).1,fA.cell Ht.out id,fA.cell (vz.out i T) id⟩;refine⟨_,rfl,M.out,?_⟩;refine fR 99 10 87 (.tuple #[.string v,.bool r,.nilIface]) rfl rfl (λc a w h=>o _ _ c a w h) M.out ⟨by rfl,λj b=>by obtain⟨C,B,z⟩:=b;go_simp⟩ ?_;refine fR 99 11 98 (.string v) rfl rfl (λc a w h=>o _ _ c a w h) M.out ⟨by rfl,λj b=>by obtain⟨C,B,z⟩:=b;go_simp⟩ ?_;refine fR 99 12 99 (.bool r) rfl rfl (λc a w h=>o _ _ c a w h) M.out ⟨by rfl,λj b=>by obtain⟨C,B,z⟩:=b;go_simp⟩ ?_;refine fR 99 13 100 (.nilIface) rfl rfl (λc a w h=>o _ _ c a w h) M.out ⟨by rfl,λj b=>by obtain⟨C,B,z⟩:=b;go_simp⟩ ?_;refine fR 99 14 12 (.string v) rfl rfl (λc a w h=>o _ _ c a w h) M.out ⟨by rfl,λj b=>by obtain⟨C,B,z⟩:=b;go_simp⟩ ?_;refine fR 99 15 13 (.bool r) rfl rfl (λc a w h=>o _ _ c a w h) M.out ⟨by rfl,λj b=>by obtain⟨C,B,z⟩:=b;go_simp⟩ ?_;refine fR 99 16 14 (.nilIface) rfl rfl (λc a w h=>o _ _ c a w h) M.out ⟨by rfl,λj b=>by obtain⟨C,B,z⟩:=b;go_simp⟩ ?_;refine⟨by kernel_rfl,?_⟩;have hfin:∀A:Act,A=⟨#[c0,c1,c2,c3,u4,.pointer (some ⟨D,0,none⟩),c6,c7,.int .i64 ((s.U.length:Int)+1),c9,.pointer (some ⟨lb,0,none⟩),.int .i64 i,.string v,.bool r,.nilIface,c15,c16,c17,c18,c19,c20,c21,NM,NL,NK,NJ,NI,Gy,NH,NG,Jk,NF,QA,Pz,Py,Px,Pw,Pv,Pu,Pt,Ps,Pr,Pq,Pp,Po,Pn,Pm,Pk,Pj,c49,Ph,c51,Pg,Pf,Pe,Pd,Pc,Pb,Pa,ND,NC,NB,NA,Mz,My,Mx,Mw,Gx,Mv,Mu,Mt,Ms,Mr,Mq,Mp,Mo,Mn,Mm,Ml,Mk,Mj,.int .i64 i,.slice (some ⟨n,no,none⟩) 4 F,.int .i64 4,.bool true,u85,u86,.tuple #[.string v,.bool r,.nilIface],.pointer (some ⟨D,0,none⟩),.pointer (some ⟨D,0,none⟩),.pointer (some ⟨D,0,none⟩),.pointer (some ⟨g,0,none⟩),.int .i64 ((s.U.length:Int)+1),.slice (some ⟨n,no,none⟩) 4 F,.int .i64 i,.pointer (some ⟨n,no+i,none⟩),.string (nameK i),.tuple #[.string v,.bool r,.nilIface],.string v,.bool r,.nilIface,u101,u102,u103,u104,u105,u106,u107,u108,u109,u110,u111,u112,u113,u114,yS,yR,yQ,yP,K,yO,yN,yM,yL,yK,yJ,yI,yH,yG,yF,yE,yD,yC,yB,xz,xy,xx,xw,J,xu,xt,xr,xq,xp,xo,xm,xl,xk,xj,xh,xg,xf,xe,xd,xc,xZ,xY,xX,xW,xV,xU,xT,xS,xR],[]⟩->Q1 .normal A l:=λA hA=>by
    subst hA;have Q:=ti.out;subst Q;clear t5 t8 t11 hsz o QP V kI;obtain⟨N,O,L⟩:=fU hR;rw[hl]at L;obtain⟨i0',hpi,hz0,hz1,hz2⟩:=A3 Tryz.tM;have H:l.ownsRow W.heap.size 51 4 (.slice N i O) i (uN Y):=by rw[<-L];have:=hR;unfold nG at this;rw[hl]at this;exact this
    have hWs:=fA.size;have S:((l.alloc (.cells #[.int .i64 1,.string (nameK i),.string v,.bool r] 51)).drew).ownsRow W.heap.size 51 4 (.slice N i O) i (uN Y):=gO H (((Mod.refl dt l).alloc _).drew) (λ_ _ _ _ e=>e);obtain⟨v7,G,gT,eX,eh,oX,ib⟩:=C0 (P:=Tryz.prog) _ W.heap.size 44 44 51 i0' _ 4 48 Tryz.wP hpi hz0 hz1 hz2 rfl (by omega) _ _ _ S ⟨l.heap.size,0,none⟩ 1 1 (BR ⟨1,nameK i,v,r⟩) rfl (A7 (A0 l _)) (λu hu=>by simp[BR]at hu;obtain rfl|rfl|rfl|rfl:=hu <;> rfl) (by unfold maxLen;omega) (by omega) (by show W.heap.size<=(l.alloc _).heap.size;rw[A4];omega);obtain⟨a7,fV,qQ⟩:=fU eX;subst qQ;have fq:Mod (λk=>(Value.slice N i O).ownBlock=some k) l G:=(((Mod.refl _ l).alloc _).drew).grown eh (λx hx _=>hx);have HQ:Hid (yp W D g m lb s (i+1) (G.setCell ⟨lb,0,none⟩ (.slice a7 (i+1) fV))):=by
     refine yRp hl hle hG hT hB hR sj (by rw[L];exact fq) ?_ (λk hk=>?_)
     .unfold nG;rw[WZ,aE,hl];exact eX
     .rw[L];obtain q|q:=ib
      .exact .inl (by rw[<-q];exact hk)
      .rw[q]at hk;simp only[ag]at hk;have:(l.alloc (.cells #[.int .i64 1,.string (nameK i),.string v,.bool r] 51)).drew.heap.size=l.heap.size+1:=A4 _ _;omega
    have hbl:=hB.lt;rw[L]at hB;have b0:=hB.cell 0 rfl;have bf:=hB.frozen 0;have hnl:(Value.slice N i O).ownBlock≠some lb:=λe=>by
     obtain⟨_,_,cur,hc⟩:=fs H e;have hb:l.heap[lb]?=some (.cells [.slice N i O,.int .i64 (s.now+1),.int .i64 0].toArray 46 (0,0)):=hB;rw[hb]at hc;simp at hc
    have bf7:G.frozen? ⟨lb,0,none⟩=false:=(fq.frozen (p:=⟨lb,0,none⟩) hbl hnl).trans bf;have bz7:lb<G.heap.size:=aJ hbl fq.size;have b7:G.cell? ⟨lb,0,none⟩=some (.slice N i O):=fq.cell b0 hnl;have hW7:Mod dt W G:=fA.trans' fq (λk hk e=>by have:=(fs H e).1;omega);have X:Hid (l.drew.cell? ⟨0,0,none⟩=some (.slice (some ⟨n,no,none⟩) 4 F)/\l.drew.cell? ⟨n,no+i,none⟩=some (.string (nameK i))/\l.drew.cell? ⟨lb,0,none⟩=some (.slice N i O)/\lb<l.drew.heap.size):=⟨M.out.2.1,M.out.2.2,b0,hbl⟩;have ml:Mod dt l (l.alloc (.cells #[.int .i64 1,.string (nameK i),.string v,.bool r] 51)).drew:=((Mod.refl dt l).alloc _).drew;have yh:Hid ((l.alloc (.cells #[.int .i64 1,.string (nameK i),.string v,.bool r] 51)).drew.cell? ⟨0,0,none⟩=some (.slice (some ⟨n,no,none⟩) 4 F)/\(l.alloc (.cells #[.int .i64 1,.string (nameK i),.string v,.bool r] 51)).drew.cell? ⟨n,no+i,none⟩=some (.string (nameK i))/\(l.alloc (.cells #[.int .i64 1,.string (nameK i),.string v,.bool r] 51)).drew.cell? ⟨lb,0,none⟩=some (.slice N i O)/\lb<(l.alloc (.cells #[.int .i64 1,.string (nameK i),.string v,.bool r] 51)).drew.heap.size):=⟨ml.cell M.out.2.1 id,ml.cell M.out.2.2 id,ml.cell b0 id,aJ hbl ml.size⟩;have qa:Hid (G.cell? ⟨0,0,none⟩=some (.slice (some ⟨n,no,none⟩) 4 F)/\G.cell? ⟨n,no+i,none⟩=some (.string (nameK i))/\G.cell? ⟨lb,0,none⟩=some (.slice N i O)/\lb<G.heap.size):=⟨hW7.cell Ht.out id,hW7.cell (vz.out i T) id,b7,bz7⟩;clear hG hT hB hR sj hle hl H S eX eh oX ib fq ml fA hW7 L M b0 bf hnl;go_upto_region 25 with fail;refine IJ λE I=>?_;refine IM λQ1 Q=>?_;have o:∀(d:Nat) (v:Value) (c:List PanicEntry) (a:Act) (w:World),Q1 (.panic c) (a.put (some d) v) w->Q1 (.panic c) a w:=λd v c a w h=>by rw[Q]at h⊢;exact h
    have ti:=dk Q;clear Q;have hsz:E.tmps.size=164:=by rw[I];rfl
    obtain⟨_,t10⟩:∃h:10<E.tmps.size,E.tmps[10]=.pointer (some ⟨lb,0,none⟩):=aF.1 (by rw[I];rfl);obtain⟨_,t11⟩:∃h:11<E.tmps.size,E.tmps[11]=.int .i64 i:=aF.1 (by rw[I];rfl);obtain⟨_,t12⟩:∃h:12<E.tmps.size,E.tmps[12]=.string v:=aF.1 (by rw[I];rfl);obtain⟨_,t13⟩:∃h:13<E.tmps.size,E.tmps[13]=.bool r:=aF.1 (by rw[I];rfl);have kI:=dk I;clear I;refine CM 12 (λj=>j.cell? ⟨0,0,none⟩=some (.slice (some ⟨n,no,none⟩) 4 F)/\j.cell? ⟨n,no+i,none⟩=some (.string (nameK i))/\j.cell? ⟨lb,0,none⟩=some (.slice N i O)/\lb<j.heap.size) rfl ?_;refine fR 12 0 103 (.pointer (some ⟨lb,0,none⟩)) rfl rfl (λc a w h=>o _ _ c a w h) X.out ⟨by rfl,λj b=>by obtain⟨C,B,z,q3⟩:=b;go_simp⟩ ?_;refine fR 12 1 104 (.slice N i O) rfl rfl (λc a w h=>o _ _ c a w h) X.out ⟨by rfl,λj b=>by obtain⟨C,B,z,q3⟩:=b;go_simp⟩ ?_;refine fR 12 2 105 (.slice (some ⟨n,no,none⟩) 4 F) rfl rfl (λc a w h=>o _ _ c a w h) X.out ⟨by rfl,λj b=>by obtain⟨C,B,z,q3⟩:=b;go_simp⟩ ?_;refine fR 12 3 106 (.int .i64 i) rfl rfl (λc a w h=>o _ _ c a w h) X.out ⟨by rfl,λj b=>by obtain⟨C,B,z,q3⟩:=b;go_simp⟩ ?_;refine fR 12 4 107 (.pointer (some ⟨n,no+i,none⟩)) rfl rfl (λc a w h=>o _ _ c a w h) X.out ⟨by rfl,λj b=>by obtain⟨C,B,z,q3⟩:=b;go_simp⟩ ?_;refine fR 12 5 108 (.string (nameK i)) rfl rfl (λc a w h=>o _ _ c a w h) X.out ⟨by rfl,λj b=>by obtain⟨C,B,z,q3⟩:=b;go_simp⟩ ?_;refine fR 12 6 109 (.string v) rfl rfl (λc a w h=>o _ _ c a w h) X.out ⟨by rfl,λj b=>by obtain⟨C,B,z,q3⟩:=b;go_simp⟩ ?_;refine fR 12 7 110 (.bool r) rfl rfl (λc a w h=>o _ _ c a w h) X.out ⟨by rfl,λj b=>by obtain⟨C,B,z,q3⟩:=b;go_simp⟩ ?_;refine fR 12 8 111 (.agg #[.int .i64 1,.string (nameK i),.string v,.bool r]) rfl rfl (λc a w h=>o _ _ c a w h) X.out ⟨by rfl,λj b=>by obtain⟨C,B,z,q3⟩:=b;go_simp⟩ ?_;refine kJ 12 9 112 rfl rfl (by kernel_rfl) rfl (v:=.slice (some ⟨l.heap.size,0,none⟩) 1 1) (w':=(l.alloc (.cells #[.int .i64 1,.string (nameK i),.string v,.bool r] 51)).drew) (by go_simp) yh.out ?_;refine kJ 12 10 113 rfl rfl (by kernel_rfl) rfl (v:=.slice a7 (i+1) fV) (w':=G) (yz (s:=.tmp 104) (x:=.tmp 112) (t:=44) rfl (by go_simp) (by go_simp) gT) qa.out ?_;refine kJ 12 11 114 rfl rfl (by kernel_rfl) rfl (v:=.pointer (some ⟨lb,0,none⟩)) (w':=G) (by go_simp) qa.out ?_;refine KX 12 rfl (by kernel_rfl) rfl (w':=G.setCell ⟨lb,0,none⟩ (.slice a7 (i+1) fV)) (by go_simp) ?_;refine⟨by kernel_rfl,?_⟩;have Tc:∀A:Act,A=⟨#[c0,c1,c2,c3,u4,.pointer (some ⟨D,0,none⟩),c6,c7,.int .i64 ((s.U.length:Int)+1),c9,.pointer (some ⟨lb,0,none⟩),.int .i64 i,.string v,.bool r,.nilIface,c15,c16,c17,c18,c19,c20,c21,NM,NL,NK,NJ,NI,Gy,NH,NG,Jk,NF,QA,Pz,Py,Px,Pw,Pv,Pu,Pt,Ps,Pr,Pq,Pp,Po,Pn,Pm,Pk,Pj,c49,Ph,c51,Pg,Pf,Pe,Pd,Pc,Pb,Pa,ND,NC,NB,NA,Mz,My,Mx,Mw,Gx,Mv,Mu,Mt,Ms,Mr,Mq,Mp,Mo,Mn,Mm,Ml,Mk,Mj,.int .i64 i,.slice (some ⟨n,no,none⟩) 4 F,.int .i64 4,.bool true,u85,u86,.tuple #[.string v,.bool r,.nilIface],.pointer (some ⟨D,0,none⟩),.pointer (some ⟨D,0,none⟩),.pointer (some ⟨D,0,none⟩),.pointer (some ⟨g,0,none⟩),.int .i64 ((s.U.length:Int)+1),.slice (some ⟨n,no,none⟩) 4 F,.int .i64 i,.pointer (some ⟨n,no+i,none⟩),.string (nameK i),.tuple #[.string v,.bool r,.nilIface],.string v,.bool r,.nilIface,.nilIface,.bool false,.pointer (some ⟨lb,0,none⟩),.slice N i O,.slice (some ⟨n,no,none⟩) 4 F,.int .i64 i,.pointer (some ⟨n,no+i,none⟩),.string (nameK i),.string v,.bool r,.agg #[.int .i64 1,.string (nameK i),.string v,.bool r],.slice (some ⟨l.heap.size,0,none⟩) 1 1,.slice a7 (i+1) fV,.pointer (some ⟨lb,0,none⟩),yS,yR,yQ,yP,K,yO,yN,yM,yL,yK,yJ,yI,yH,yG,yF,yE,yD,yC,yB,xz,xy,xx,xw,J,xu,xt,xr,xq,xp,xo,xm,xl,xk,xj,xh,xg,xf,xe,xd,xc,xZ,xY,xX,xW,xV,xU,xT,xS,xR],[]⟩->Q1 .normal A (G.setCell ⟨lb,0,none⟩ (.slice a7 (i+1) fV)):=λA hA=>by
     subst hA;have Q:=ti.out;subst Q;clear t10 t11 t12 t13 hsz o kI X yh qa gT b7 bf7 bz7;go_wp2_with fail;go_roundw
     case rel=>exact⟨i+1,T,by first|rfl|go_num,HQ.out⟩
     case measure=>simp[intOf];omega
    exact Tc _ (by rw[kI.out];kernel_rfl)
   exact hfin _ (by rw[kI.out];kernel_rfl)
  .obtain rfl:i=4:=by omega
   have HQ:=dk hI;clear hI iZ d0;go_wp2_with fail;show R _ _;exact HN.out _ _ _ _ _ _ _ _ _ _ _ _ _ _ _ _ _ _ _ _ _ _ _ _ _ _ _ _ _ _ _ _ _ _ _ _ _ _ _ _ HQ.out
