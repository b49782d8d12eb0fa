import Derived.Test.YtmaiggbnceejiaaGreatDoorP23
set_option linter.unusedVariables false
set_option maxRecDepth 100000
set_option maxHeartbeats 16000000
namespace Go.Proofs.YtmaiggbnceejiaaGreatDoor
open Go.RowKit Go.Lib Go.Maps
def tf(s:dW)(m:Nat):dW:=(List.range m).foldl eV s
theorem zWm(s:dW)(m:Nat):tf s (m+1)=eV (tf s m) m:=by unfold tf;rw [aY,aX];rfl
theorem yIk{s:dW}(h:Safe s):∀ m,m<=s.lines.length->Safe (tf s m)/\gb s (tf s m)/\(tf s m).net.lost<=s.net.lost+m*s.dV.length:=by
 intro m
 induction m with
 | zero=>exact fun _=>⟨h,gb.refl s,by simp [tf]⟩
 | succ m ih=>
  intro hm;rw [zWm];obtain ⟨a,b,c⟩:=ih (by omega);obtain ⟨a',b',_⟩:=Ud a (k:=m) (by rw [b.mv.ll];omega);obtain ⟨_,d',_⟩:=zSy (tf s m) m;refine ⟨a',b.trans b',?_⟩;rw [b.mv.tl] at d';have e:((m+1:Nat):Int)*(s.dV.length:Int)=(m:Int)*(s.dV.length:Int)+(s.dV.length:Int):=by
   rw [show ((m+1:Nat):Int)=(m:Int)+1 by omega,Int.add_mul,Int.one_mul]
  rw [e];omega
def lF(s:dW)(k j:Nat):dW:=((List.range j).map (·+1)).foldl (fun h id=>gE h k (dy s k).log id) s
theorem yAp(s:dW)(k j:Nat):lF s k (j+1)=gE (lF s k j) k (dy s k).log (j+1):=by unfold lF;rw [aY,ao,aX];rfl
theorem yLl{s:dW}(h:Safe s){k:Nat}(hk:k<s.lines.length)(hv:fs s (dy s k)=true):∀ j,j<=s.dV.length->Dm s (lF s k j) k j/\(lF s k j).net.lost<=s.net.lost+j:=by
 intro j
 induction j with
 | zero=>exact fun _=>⟨⟨h,gb.refl s,⟨[],by simp [lF],by simp⟩,fun id i1 i2=>by omega,fun _ _=>rfl,hv⟩,by simp [lF]⟩
 | succ j ih=>
  intro hj;rw [yAp];obtain ⟨a,b⟩:=ih (by omega);have c:=zWn (lF s k j) k (dy s k).log (j+1);exact ⟨a.step hk (by omega),by omega⟩
theorem yDz{s:dW}(h:Safe s){k:Nat}(hk:k<s.lines.length)(hv:fs s (dy s k)=true):eV s k=lF s k s.dV.length:=by
 unfold eV
 cases hh:td s k with
 | none=>rw [Tb h hk hh] at hv;cases hv
 | some n=>obtain ⟨rfl,_⟩:=Iv h hk hh;rfl
theorem yEa{s:dW}(h:Safe s){k:Nat}(hk:k<s.lines.length)(hv:fs s (dy s k)=false):eV s k=s:=by
 unfold eV
 cases hh:td s k with
 | none=>rfl
 | some n=>obtain ⟨rfl,e⟩:=Iv h hk hh;rw [hv] at e;cases e
theorem IZ.out{w w':World}{r:Option dt}{e:Ending}(h:IZ w w' r e):∃ (d:dt) (u:Value) (ok:Bool),e=.returned (.tuple #[.agg #[.int .i64 d.kind,.int .i64 d.tx,.int .i64 d.time,u],.bool ok])/\w'.ownsRow w.heap.size 68 3 u d.writes.length (gV d.writes)/\r=(if ok then some d else none)/\Mod dZ w w':=h
theorem yRq{s:dW}(h:Safe s){id k:Nat}(h1:1<=id)(h2:id<=s.dV.length)(hk:k<s.lines.length){c:dt}{time:Int}(ht:1<=time/\time<=501)(hd:fb s id k time=some c):Bg c:=by
 have hx:=h.tx id h1 h2;have htl:=h.tl;have i0:gw (0:Int):=by unfold gw;omega
 have i2:gw (2:Int):=by unfold gw;omega
 have i3:gw (3:Int):=by unfold gw;omega
 have i4:gw (4:Int):=by unfold gw;omega
 have ii:gw (id:Int):=by unfold gw;omega
 unfold fb at hd;simp only at hd;split at hd
 ·split at hd
  ·cases hd;exact ⟨⟨i3,ii,show gw time by unfold gw;omega⟩,by simp⟩
  ·cases hd
 ·split at hd
  ·cases hd
  ·split at hd
   ·cases hd
    refine ⟨⟨i2,ii,i0⟩,?_⟩;have:(tt s (s.tx id) k).length<=(s.tx id).writes.length:=aw _ _;have:=hx.few.1;show (tt s (s.tx id) k).length<=40;omega
   ·split at hd
    ·cases hd
     have:=hx.tm;exact ⟨⟨i3,ii,show gw (s.tx id).time by unfold gw;omega⟩,by simp⟩
    ·split at hd
     ·cases hd;exact ⟨⟨i4,ii,i0⟩,by simp⟩
     ·cases hd
theorem TR(n c g:Nat)(y:dX)(s:dW)(w:World)(h:du w n c g y s)(hS:Safe s)(hlo:s.net.lost+300<=4611686018427387904) :
  Calls Tryz.prog 42 #[.pointer (some ⟨g,0,none⟩)] w fun e w'=>e=.returned (.tuple #[])/\∃ y',du w' n c g y' (jd s)/\eJ w y w' y':=by
 obtain ⟨c0,-⟩:=kA h.blk;obtain ⟨la,fG,hlv⟩:=fJ h.fm;have hll:=hS.ll;have htl:=hS.tl;have hlen:=h.iN;rw [hlv,hlen] at c0;have hLT:(s.lines.length:Int)*(s.dV.length:Int)<=300:=by
  have h1:s.lines.length*s.dV.length<=5*60:=Nat.mul_le_mul hll.2 htl;have:((s.lines.length*s.dV.length:Nat):Int)<=300:=by omega
  simpa using this
 have Bd:Hid (y.lv=.slice la s.lines.length fG):=by unfold Hid;rw [hlv,hlen]
 have HH:=dU h;have HS:=dU hS;have Kz:=dU hLT;clear h hS hlv hLT;go_enter Tryz.func42,Tryz.ntmps42;go_wp2_with fail;go_loopw [17] (fun k0 wr=>∃ (k:Nat) (yr:dX),k<=s.lines.length/\k0=.int .i64 k/\du wr n c g yr (tf s k)/\eJ w y wr yr) (fun k0 _=>s.lines.length - (intOf k0).toNat)
 case atStart=>exact ⟨0,y,aV _,rfl,HH.out,eJ.refl _ _⟩
 case round=>
  obtain ⟨k,yr,hkl,rfl,hH,hK⟩:=hrel;obtain ⟨wo,hwo⟩:∃ x,x=wr:=⟨_,rfl⟩;subst hwo;by_cases hlt:k<s.lines.length
  ·obtain ⟨tS,tT,tL⟩:=yIk HS.out k hkl;have Nf:(tf s k).net.lost+s.dV.length<=4611686018427387904:=by
    have:((k:Int)+1)*(s.dV.length:Int)<=(s.lines.length:Int)*(s.dV.length:Int):=Int.mul_le_mul_of_nonneg_right (by omega) (by omega);rw [Int.add_mul,Int.one_mul] at this;have:=Kz.out;omega
   have Jv:=zWm s k;have lO:(tf s k).dV.length=s.dV.length:=tT.mv.tl;have hk':k<(tf s k).lines.length:=by rw [tT.mv.ll];exact hlt
   have kg:=dU Jv;clear Jv tT tL;generalize tf s k=S at hH tS Nf lO hk' kg;obtain ⟨b,hb,hL⟩:=hH.nI hk';obtain ⟨d,hd,x,hx,Rn⟩:=hL.vp (j:=0) (by have:=bH.2 (tS.line k hk').ne;omega);have hx0:x=dy S k:=by
    have:=tS.head hk';rw [hx] at this;exact ax this
   subst hx0;have hst:yr.st S d=dy S k:=hH.kU hb (mL hk') hd hx;have Ac:=dU (yCd n c g yr S k b d wo hH hk' hb hd);rw [hst] at Ac;have wA:(k:Int)<(s.lines.length:Int):=by omega
   have qT:(0:Int)<=(k:Int):=by omega
   have jG:=dU hH;have nj:=dU hK;have HB:=dU hb;have HD:=dU hd;have oY:=dU tS;have qI:=dU hk';clear hH hK hL hb hd hx Rn tS hst hk'
   cases hv:fs S (dy S k) with
   | false=>
    rw [hv] at Ac;have HE:Hid (tf s (k+1)=S):=by unfold Hid;rw [kg.out,yEa oY.out qI.out hv]
    clear hv;go_upto_region 4 with (first
     | (go_at_call 64;refine Ac.out.mono ?_;rintro e w1 ⟨rfl,di⟩)
     | fail)
    have HF:Hid (du w1 n c g yr (tf s (k+1))/\eJ w y w1 yr):=⟨by rw [HE.out];exact jG.out.quiet di,nj.out.trans (eJ.quiet di)⟩;clear di;go_wp2_with fail;go_roundw
    case rel=>exact ⟨k+1,yr,by omega,by go_num,HF.out.1,HF.out.2⟩
    case measure=>simp [intOf];omega
   | true=>
    rw [hv] at Ac;have fW:(dy S k).log.length<=305:=(oY.out.log k qI.out).few oY.out.tl;have sB:Hid (∀ wq,Mod dZ wo wq->Calls Tryz.prog 40 #[.pointer (some ⟨d,0,none⟩)] wq fun e w'=>∃ v,e=.returned v/\gU w' (yr.lo n) v (dy S k).log/\lE wq v/\Mod dZ wq w'):=fun wq hq=>by
     have hN:=(jG.out.quiet hq).mN HB.out (aC HD.out);have hst:yr.st S d=dy S k:=jG.out.kU HB.out (mL qI.out) HD.out (oY.out.head qI.out);rw [hst] at hN;exact LR _ _ _ _ _ _ hN
    have HV:=dU hv;clear hv;go_upto_region 5 with (first
     | (go_at_call 64;refine Ac.out.mono ?_;rintro e w1 ⟨rfl,di⟩)
     | fail)
    have Pc:=dU (sB.out w1 di);have fg:=dU di;clear di Ac;go_upto_region 6 with (first
     | (go_at_call 40;refine Pc.out.mono ?_;rintro e w2 ⟨v,rfl,hrc,uE,hm2⟩;obtain ⟨va,vc,lI⟩:=hrc.slice;subst lI)
     | fail)
    have xK:Mod dZ wo w2:=fg.out.trans hm2;have xQ:JP w2 yr (.slice va (dy S k).log.length vc) (dy S k).log:=by
     refine ⟨hrc.oN,.inr fun z hz=>?_⟩;have hz2:=uE z hz;have hz1:=fg.out.size;obtain ⟨us,_,h3,_⟩:=hrc;refine ⟨?_,(ft h3 hz).2.1⟩;exact aR fun e=>by have:=(jG.out.own.lt z e).2;omega
    have LF:=dU xQ;have lU:=dU (jG.out.quiet xK);have wK:=dU (nj.out.trans (eJ.quiet xK));clear hrc uE hm2 xK xQ sB Pc fg;go_wp2_with fail;go_loopw [6] (fun j0 wi=>∃ (j:Nat) (yi:dX),j<=s.dV.length/\j0=.int .i64 ((j:Int)+1)/\du wi n c g yi (lF S k j)/\eJ w y wi yi/\eJ w2 yr wi yi) (fun j0 _=>s.dV.length+1 - (intOf j0).toNat)
    case atStart=>exact ⟨0,yr,aV _,rfl,lU.out,wK.out,eJ.refl _ _⟩
    case round=>
     obtain ⟨j,yi,hjl,rfl,kP,rn,sy⟩:=hrel;obtain ⟨wi,zC⟩:∃ x,x=wr:=⟨_,rfl⟩;subst zC;obtain ⟨tI,tL⟩:=yLl oY.out qI.out HV.out j (by rw [lO];exact hjl);have OH:=yAp S k j;have AM:=dU OH;have Hk:=yDz oY.out qI.out HV.out;rw [lO] at Hk;have HAll:=dU Hk;clear OH Hk;obtain ⟨-,-,-,-,-,-,c6⟩:=kA kP.blk;obtain ⟨ta,iX,pM⟩:=fJ kP.gR;have vu:yi.ja.length=s.dV.length:=by rw [kP.kM,tI.tells.mv.tl,lO]
     rw [pM,vu] at c6;by_cases rj:j<s.dV.length
     ·have Ni:(j:Int)+1<=(s.dV.length:Int):=by omega
      generalize xT:lF S k j=R at kP tI tL AM;have xN:k<R.lines.length:=by rw [tI.tells.mv.ll];exact qI.out
      have hRT:R.dV.length=s.dV.length:=by rw [tI.tells.mv.tl,lO]
      have Cu:yi.gH[k]?=some b:=by rw [sy.l];exact HB.out
      have hdi:(yi.fU b)[0]?=some d:=by rw [sy.n];exact HD.out
      have Gz:=tI.safe;have hRf:(dy R k).log.length<=305:=(Gz.log k xN).few Gz.tl;have Mu:yi.st R d=dy R k:=kP.kU Cu (mL xN) hdi (Gz.head xN);have Hc:=kP.mN Cu (aC hdi);rw [Mu] at Hc;have DU:=dU (Sw _ _ _ _ _ _ Hc);have Yt:((j+1:Nat):Int)=(j:Int)+1:=by omega
      have HDU:=dU (yTy n c g yi R (j+1) k ((dy R k).log.length+1) wi kP Gz.shape (by omega) (by omega) xN (Gz.tx (j+1) (by omega) (by omega)).few.2);rw [Yt] at HDU;have HHi:=dU kP;have Pd:=dU rn;have Zl:=dU sy;have ZS:=dU Gz;have HBi:=dU Cu;have Zz:=dU hdi;have Za:=dU Hc;have Kp:Hid (R.net.lost<=S.net.lost+j):=tL;have ZX:Hid (∀ kind wq,iD w2 yr wq yi->Calls Tryz.prog 80 #[.slice va (dy S k).log.length vc,.int .i64 kind,.int .i64 ((j:Int)+1)] wq fun e w'=>e=.returned (.int .i64 (iO (kq (dy S k).log kind ((j:Int)+1))))/\Mod dZ wq w'):=fun kind wq hq=>UC _ _ kind _ wq (LF.out.keep hq).1 (by omega);clear kP rn sy Cu hdi Hc Mu tI tL Gz pM vu xT;go_upto_region 10 with (first
       | (go_at_call 79;refine DU.out.mono ?_;rintro e w3 ⟨rfl,rfl⟩)
       | (go_at_call 78;refine HDU.out.mono ?_;rintro e w4 nM;obtain ⟨dc,u,ok,rfl,hrow,hres,gM⟩:=nM.out;obtain ⟨ua,uc,CY⟩:=fJ hrow;subst CY)
       | fail)
      obtain ⟨w5,rE⟩:∃ z,z=w4.alloc (.cells #[.int .i64 dc.kind,.int .i64 dc.tx,.int .i64 dc.time,.slice ua dc.writes.length uc] 65):=⟨_,rfl⟩;rw [<-rE];have mg:Mod dZ w4 w5:=by rw [rE];exact (Mod.refl _ w4).alloc _
      have nP:dh w5 w4.heap.size [.int .i64 dc.kind,.int .i64 dc.tx,.int .i64 dc.time,.slice ua dc.writes.length uc] 65:=by rw [rE];exact dh.new w4 _ _
      have jA:Mod dZ w3 w5:=gM.trans mg;have Mh:=gM.size;have x0:=nP.cell 0 rfl;have LC:=dU (HHi.out.quiet jA);have Ev:=dU (Pd.out.trans (eJ.quiet jA));have Et:=dU (Zl.out.trans (eJ.quiet jA));have ZO:=dU (gD hrow mg (fun _ _ _ _=>id));have HB5:=dU nP;have Zj:=dU jA;have xd:=dU hres;clear rE gM mg nP jA hrow hres HDU DU;have LD:Hid (∀ R',gE R k (dy S k).log (j+1)=R'->lF S k (j+1)=R'):=fun R' e=>by rw [AM.out];exact e
      cases ok with
      | false=>
       have HF:Hid (lF S k (j+1)=R):=LD.out _ (by
        unfold gE;rw [xd.out];rfl)
       clear xd;go_wp2_with fail;go_roundw
       case rel=>exact ⟨j+1,yi,by omega,by go_num,by rw [HF.out];exact LC.out,Ev.out,Et.out⟩
       case measure=>simp [intOf];omega
      | true=>
       have lX:=dU (ZX.out dc.kind w5 Et.out.st)
       cases hpc:kq (dy S k).log dc.kind ((j:Int)+1) with
       | some i=>
        rw [hpc] at lX;have hi0:decide ((i:Int)<0)=false:=aP (by omega);have HF:Hid (lF S k (j+1)=R):=LD.out _ (by
         unfold gE;rw [xd.out];show (if (kq (dy S k).log dc.kind ((j+1:Nat):Int)).isNone=true then _ else _)=_;rw [Yt,hpc];rfl)
        clear xd hpc;go_wp2_with (first
         | (go_at_call 80;refine lX.out.mono ?_;rintro e w6 ⟨rfl,fq⟩;simp only [iO])
         | fail)
        have mU:Hid (du w6 n c g yi (lF S k (j+1))/\eJ w y w6 yi/\eJ w2 yr w6 yi):=⟨by rw [HF.out];exact LC.out.quiet fq,Ev.out.trans (eJ.quiet fq),Et.out.trans (eJ.quiet fq)⟩;clear fq;go_wp2_with fail;go_roundw
        case rel=>exact ⟨j+1,yi,by omega,by go_num,mU.out.1,mU.out.2.1,mU.out.2.2⟩
        case measure=>simp [intOf];omega
       | none=>
        rw [hpc] at lX;have nM:fb R (j+1) k ((dy R k).log.length+1)=some dc:=xd.out;have uD:=yRq ZS.out (by omega) (by omega) xN (by omega) nM;have HF:Hid (lF S k (j+1)=qx (je R k 0 (mX (dy R k) dc).1) (mX (dy R k) dc).2):=LD.out _ (by
         unfold gE;rw [nM];show (if (kq (dy S k).log dc.kind ((j+1:Nat):Int)).isNone=true then mj R k dc else _)=_;rw [Yt,hpc];show mj R k dc=_;unfold mj;rw [ZS.out.add xN])
        have Pu:Hid (∀ wq,Mod dZ w5 wq->Calls Tryz.prog 81 #[.pointer (some ⟨d,0,none⟩),.agg #[.int .i64 dc.kind,.int .i64 dc.tx,.int .i64 dc.time,.slice ua dc.writes.length uc]] wq fun e w'=>
          ∃ v jQ,e=.returned (.tuple #[.int .i64 (dy R k).log.length,v,.nilIface])/\fh w' (yi.lo n) d (yi.kI d) jQ (mX (dy R k) dc).1/\eX w' (yi.lo n) v (mX (dy R k) dc).2/\lE wq v/\iC wq (yi.kJ d) jQ/\Mod (gx d (yi.kI d) (yi.kJ d)) wq w'):=fun wq hq=>by
         have hN:=Za.out.quiet (Zj.out.trans hq);have hpt:iE wq (yi.lo n) (.slice ua dc.writes.length uc) dc.writes:=by
          have h0:=gD ZO.out hq (fun _ _ _ _=>id);exact iE.iY h0 (fun z hz=>Uy HHi.out.own z hz)
         exact ySa (yi.lo n) d (yi.kI d) (yi.kJ d) (dy R k) dc _ wq hN (ZS.out.mR xN) (by omega) hpt uD
        clear xd hpc nM uD;go_upto_region 11 with (first
         | (go_at_call 80;refine lX.out.mono ?_;rintro e w6 ⟨rfl,fq⟩;simp only [iO])
         | fail)
        have nO:=HB5.out.mod fq (fun e=>e);obtain ⟨z0,z1,z2,z3,-,-,-,-⟩:=tD nO;have FD:=dU (Pu.out w6 fq);have HH6:=dU (LC.out.quiet fq);have HK6:=dU (Ev.out.trans (eJ.quiet fq));have HR6:=dU (Et.out.trans (eJ.quiet fq));clear fq nO Pu lX;go_upto_region 12 with (first
         | (go_at_call 81;refine FD.out.mono ?_;rintro e w7 ⟨v7,vq,rfl,uI,rG,yJ,zT,ix⟩;obtain ⟨RM,RL,re⟩:=rG.slice;subst re)
         | fail)
        obtain ⟨y7,uz,uJ,su,po⟩:=HH6.out.yk xN HBi.out Zz.out ix uI (.inl rfl) zT rG yJ;have hl7:=Sy (dy R k) dc;have pS:=dU (Lf n c g y7 _ _ _ w7 uz su po (by
         show R.net.lost+((mX (dy R k) dc).2.length:Int)<=_;have:=Kp.out;omega))
        have IP:=dU (HK6.out.trans uJ);have Es:=dU (HR6.out.trans uJ);have Xm:=uz.blk.lt;clear uz uJ su po uI rG yJ zT ix FD z0 z1 z2 z3;go_upto_region 8 with (first
         | (go_at_call 48;refine pS.out.mono ?_;rintro e w8 ⟨⟨x8,rfl⟩,y8,uK,xW⟩)
         | fail)
        have mU:Hid (du w8 n c g y8 (lF S k (j+1))/\eJ w y w8 y8/\eJ w2 yr w8 y8):=⟨by rw [HF.out];exact uK,IP.out.trans xW,Es.out.trans xW⟩;clear uK xW pS;go_wp2_with fail;go_roundw
        case rel=>exact ⟨j+1,y8,by omega,by go_num,mU.out.1,mU.out.2.1,mU.out.2.2⟩
        case measure=>simp [intOf];omega
     ·obtain rfl:j=s.dV.length:=by omega
      have Ni:¬ ((s.dV.length:Int)+1<=(s.dV.length:Int)):=by omega
      have HF:Hid (du wi n c g yi (tf s (k+1))/\eJ w y wi yi):=⟨by rw [kg.out,HAll.out];exact kP,rn⟩;clear kP rn sy tI tL pM vu;go_wp2_with fail;go_roundw
      case rel=>exact ⟨k+1,yi,by omega,by go_num,HF.out.1,HF.out.2⟩
      case measure=>simp [intOf];omega
  ·obtain rfl:k=s.lines.length:=by omega
   have HF:Hid (∃ y',du wo n c g y' (jd s)/\eJ w y wo y'):=⟨yr,hH,hK⟩;clear hH hK;go_wp2_with fail;go_end0;exact ⟨rfl,HF.out⟩
theorem yNe{s:dW}(h:qO s=false):oI s=s:=by
 have hn:=Ak.1 h;have key:∀ m,m<=s.lines.length->nn s m=s:=by
  intro m
  induction m with
  | zero=>exact fun _=>rfl
  | succ m ih=>
   intro hm;rw [Lm,ih (by omega)];unfold gX;rw [hn m (by omega)];rfl
 exact key s.lines.length (aF _)
def RK(n c g:Nat)(w:World)(y:dX)(s:dW)(wr:World)(f:Nat):Prop:=∃ (S:dW) (yr:dX),f<=500*s.lines.length+1/\mH s=ez f S/\Safe S/\Held S/\S.lines.length=s.lines.length/\500*s.lines.length - FE S<f/\S.net.lost+300*f<=s.net.lost+300*(500*s.lines.length+1)/\du wr n c g yr S/\eJ w y wr yr
theorem yBu{P:Nat->Prop}:∀ n,P n->∃ f,P f/\∀ m,P m->f<=m:=by
 intro n
 induction n using Nat.strongRecOn with
 | ind n ih=>
  intro hn;by_cases h:∃ m,m<n/\P m
  ·obtain ⟨m,h1,h2⟩:=h;exact ih m h1 h2
  ·exact ⟨n,hn,fun m hm=>aR fun q=>h ⟨m,by omega,hm⟩⟩
open Classical in
noncomputable def yX(P:World->Nat->Prop)(w:World):Nat:=if h:∃ f,P w f/\∀ m,P w m->f<=m then Classical.choose h else 0
theorem Tg{P:World->Nat->Prop}{w:World}(h:∃ f,P w f):P w (yX P w):=by
 obtain ⟨f,hf⟩:=h;have h':=yBu f hf;unfold yX;rw [dif_pos h'];exact (dP h').1
theorem Th{P:World->Nat->Prop}{w:World}{f:Nat}(h:P w f):yX P w<=f:=by
 have h':=yBu f h;unfold yX;rw [dif_pos h'];exact (dP h').2 f h
theorem UR(n c g:Nat)(y:dX)(s:dW)(w:World)(h:du w n c g y s)(hS:Safe s)(oy:Held s)(hc:c<=10000)(hlo:s.net.lost+750300<=4611686018427387904) :
  Calls Tryz.prog 43 #[.pointer (some ⟨g,0,none⟩)] w fun e w'=>e=.returned (.tuple #[])/\∃ y',du w' n c g y' (mH s)/\eJ w y w' y':=by
 have hll:=hS.ll;have HH:=dU h;have HS:=dU hS;have IS:=dU oy;have HU:Hid (∀ S:dW,ez (500*s.lines.length+1) s=S->mH s=S):=fun S e=>e;clear h hS oy;go_enter Tryz.func43,Tryz.ntmps43;go_wp2_with fail;go_loopw [] (fun wr=>∃ f,RK n c g w y s wr f) (yX (RK n c g w y s))
 case atStart=>exact ⟨_,s,y,aF _,rfl,HS.out,IS.out,rfl,by omega,bG _,HH.out,eJ.refl _ _⟩
 case round=>
  obtain ⟨S,yr,hf,he,hS,oy,hl,BP,Gm,hH,hK⟩:=Tg hrel;obtain ⟨f,xO⟩:∃ f,f=yX (RK n c g w y s) wr:=⟨_,rfl⟩;rw [<-xO] at hf he BP Gm;have IW:=dU xO;clear hrel xO;have wL:=dU (yQz n c g yr S wr hH hS.shape hc hS.news);have Jk:=JB hS oy
  cases ha:qO S with
  | false=>
   rw [ha] at wL;have HE:Hid (mH s=oI S):=by
    unfold Hid;rw [he,yNe ha]
    cases f with
    | zero=>rfl
    | succ f=>unfold ez;rw [ha];rfl
   have HK:=dU hK;clear hH hK hS oy he BP Gm Jk;go_wp2_with fail;refine wL.out.mono ?_;rintro e w1 ⟨rfl,y1,jr,pP⟩;have HF:Hid (∃ y',du w1 n c g y' (mH s)/\eJ w y w1 y'):=⟨y1,by rw [HE.out];exact jr,HK.out.trans pP⟩;clear jr pP wL;go_wp2_with fail;go_end0;exact ⟨rfl,HF.out⟩
  | true=>
   rw [ha] at wL;obtain ⟨r1,r2⟩:=FO hS oy;rw [ha] at r2;have hle:=yCe r1.safe;have hl2:(jd (oI S)).lines.length=s.lines.length:=by rw [r1.mv.ll,hl]
   rw [hl2] at hle;obtain ⟨f',rfl⟩:∃ f',f=f'+1:=⟨f - 1,by omega⟩;have h3:=LO Jk.1.safe;rw [Jk.1.same.net] at h3;have vM:Hid (∀ wq yq,du wq n c g yq (oI S)->Calls Tryz.prog 42 #[.pointer (some ⟨g,0,none⟩)] wq fun e w'=>e=.returned (.tuple #[])/\∃ y',du w' n c g y' (jd (oI S))/\eJ wq yq w' y'):=fun wq yq hq=>TR n c g yq (oI S) wq hq Jk.1.safe (by rw [Jk.1.same.net];omega);have IF:Hid (∀ wq yq,du wq n c g yq (jd (oI S))->eJ w y wq yq->RK n c g w y s wq f'):=fun wq yq h1 h2=>⟨jd (oI S),yq,by omega,by
    rw [he];show (if qO S=true then ez f' (jd (oI S)) else S)=_;rw [ha];rfl,r1.safe,r1.held,hl2,by
    have:(if true=true then 1 else 0)=1:=rfl;rw [this] at r2;omega,by omega,h1,h2⟩
   have HK:=dU hK;clear hH hK hS oy he BP Gm Jk r1 r2 hle hl2 h3;go_wp2_with fail;refine wL.out.mono ?_;rintro e w1 ⟨rfl,y1,jr,pP⟩;have PI:=dU (vM.out w1 y1 jr);have Aa:=dU (HK.out.trans pP);clear jr pP wL;go_wp2_with fail;refine PI.out.mono ?_;rintro e w2 ⟨rfl,y2,mS,hK2⟩;have HI:=dU (IF.out w2 y2 mS (Aa.out.trans hK2));clear mS hK2 PI;go_wp2_with fail;go_roundw
   case rel=>exact ⟨f',HI.out⟩
   case measure=>
    have h1:=Th HI.out;have h2:=IW.out;omega
theorem yGt{s s':dW}(hd:s'.dead=s.dead)(id:Int):∀ (k:Nat) (ls:List ik),vd s' id k ls=vd s id k ls
 | _,[]=>rfl
 | k,l :: ls=>by
  have e:xo s' l.nodes id=xo s l.nodes id:=by unfold xo fs;rw [hd]
  unfold vd;rw [e,yGt hd id (k+1) ls]
theorem yQe{s s':dW}(hd:s'.dead=s.dead)(hl:s'.lines=s.lines)(id:Int):mY s' id=mY s id:=by
 unfold mY;rw [hl];exact yGt hd id 0 _
theorem zXi{y:dX}{e:Ending}(h:VB y none e):e=.returned (.tuple #[.pointer none,.bool false]):=h
theorem zXh{y:dX}{e:Ending}{k j:Nat}(h:VB y (some (k,j)) e):∃ b d,y.gH[k]?=some b/\(y.fU b)[j]?=some d/\e=.returned (.tuple #[.pointer (some ⟨d,0,none⟩),.bool true]):=h
theorem zVb(n c g:Nat)(y:dX)(s:dW)(i:Nat)(m:dp)(w:World)(h:du w n c g y s)(hS:Safe s)(oy:Held s)(hc:c<=10000)(hi:s.net.way[i]?=some m)(hlo:s.net.lost+750800<=4611686018427387904) :
  Calls Tryz.prog 28 #[.pointer (some ⟨g,0,none⟩),.int .i64 i] w (iQ w n c g y (im s i) 0):=by
 have YN:=yGj (y.lo n) g y.wv y.mr s.net i m w h.qe hi;unfold uW at YN;have SX:=dU YN;have jB:qW m:=by obtain ⟨_,_,_,_,_,_,_,jB,-⟩:=h.net.row.at hi;exact jB
 clear YN;have hTS:Safe (fH s i):=hS.way fun m' hm'=>bb hm';have Cw:Held (fH s i):=oy.lines rfl rfl;have hnn:mY (fH s i) m.to=mY s m.to:=yQe (s:=s) (s':=fH s i) rfl rfl _;have hmo:yR (fH s i) m:=hS.msg m (aC hi);have Sk:=dU jB;have oY:=dU hTS;have Kq:=dU Cw;have II:=dU hnn;have PZ:=dU hmo;have hg:=h.blk.lt;have HH:=dU h;have HE0:Hid (ie 0=.nilIface):=oL;have vR:Hid (mY s m.to=none->im s i=fH s i):=fun e=>by
  unfold im;rw [hi];simp only;rw [e]
 have HDS:Hid (∀ kk j,mY s m.to=some (kk,j)->im s i=mH (lD (fH s i) kk j m)):=fun kk j e=>by
  unfold im;rw [hi];simp only;rw [e]
 clear h hS oy jB hTS Cw hnn hmo hi;obtain ⟨kind,eI,uT,ep,num,⟨ck,ct,cm,cw⟩⟩:=m;go_enter Tryz.func28,Tryz.ntmps28;go_upto_region 2 with (first
  | (go_at_call 54;refine SX.out.mono ?_;rintro e w1 ⟨ME,u,rfl,pO,uG,hv1,di⟩;(obtain ⟨ua,dj,rfl⟩:∃ ua dj,u=.slice ua cw.length dj:=(by obtain ⟨ua,dj,h,_⟩:=uG;exact ⟨ua,dj,h⟩)))
  | fail)
 obtain ⟨jr,hS1⟩:=HH.out.sW di pO (.inl hv1) (.inl rfl);obtain ⟨w2,hw2⟩:∃ x,x=w1.alloc (.cells #[.int .i64 kind,.int .i64 eI,.int .i64 uT,.int .i64 ep,.int .i64 num,.int .i64 ck,.int .i64 ct,.int .i64 cm,.slice ua cw.length dj] 112):=⟨_,rfl⟩;rw [<-hw2];have hm2:Mod dZ w1 w2:=by rw [hw2];exact (Mod.refl _ w1).alloc _
 have gm:dh w2 w1.heap.size [.int .i64 kind,.int .i64 eI,.int .i64 uT,.int .i64 ep,.int .i64 num,.int .i64 ck,.int .i64 ct,.int .i64 cm,.slice ua cw.length dj] 112:=by rw [hw2];exact dh.new w1 _ _
 have pP:eJ w y w1 (y.om w ME y.mr):=⟨hS1,rfl,rfl,rfl,rfl,rfl⟩;have KC:(y.om w ME y.mr).lo n=y.lo n:=rfl;rw [<-KC] at uG;generalize y.om w ME y.mr=y1 at jr pP uG;have mS:=jr.quiet hm2;have wK:=dU (pP.trans (eJ.quiet hm2));have AP:=dU (uG.mod hm2 (Qm.none _ _));have lU:Hid (du w2 n c g y1 (fH s i)):=mS;have AR:=dU (yCa n c g y1 (fH s i) uT w2 mS oY.out.shape);have q2:=gm.cell 2 rfl;have qJ:=dU gm;have hg2:=mS.blk.lt;clear hw2 di pO hv1 jr hS1 pP uG mS hm2 gm SX KC
 cases hno:mY s uT with
 | none=>
  have hnt:mY (fH s i) uT=none:=by rw [II.out];exact hno
  rw [hnt] at AR;have HE:=dU (vR.out hno);clear hno hnt;go_upto_region 5 with (first
   | (go_at_call 55;refine AR.out.mono ?_;rintro e w3 ⟨hfo,dz⟩;obtain rfl:=zXi hfo)
   | fail)
  have HF:Hid (iQ w n c g y (im s i) 0 (.returned .nilIface) w3):=⟨by rw [HE0.out],y1,by rw [HE.out];exact lU.out.quiet dz,wK.out.trans (eJ.quiet dz)⟩;clear dz;go_wp2_with fail;go_ret;exact HF.out
 | some kj=>
  obtain ⟨kk,j⟩:=kj;have hnt:mY (fH s i) uT=some (kk,j):=by rw [II.out];exact hno
  rw [hnt] at AR;have HE:=dU (HDS.out kk j hno);obtain ⟨hkk,x,hx1,hx2,hx3⟩:=Av hnt;have hjl:=(aB.1 hx1).1;have EN:eG (fH s i) kk j=x:=pH hx1;have fW:=(oY.out.line kk hkk).few x (aC hx1);have Gy:=oY.out.step hkk hx1 PZ.out;have lO:=gb.step (s:=fH s i) hkk hx1 hx2 ⟨kind,eI,uT,ep,num,⟨ck,ct,cm,cw⟩⟩;have BS:Held (lD (fH s i) kk j ⟨kind,eI,uT,ep,num,⟨ck,ct,cm,cw⟩⟩):=Kq.out.lines lO.keys lO.dV;have hlen:=yGl fW ⟨kind,eI,uT,ep,num,⟨ck,ct,cm,cw⟩⟩;have hst:lD (fH s i) kk j ⟨kind,eI,uT,ep,num,⟨ck,ct,cm,cw⟩⟩=qx (je (fH s i) kk j (fy x ⟨kind,eI,uT,ep,num,⟨ck,ct,cm,cw⟩⟩).1) (fy x ⟨kind,eI,uT,ep,num,⟨ck,ct,cm,cw⟩⟩).2:=by unfold lD;rw [EN]
  have hls:(lD (fH s i) kk j ⟨kind,eI,uT,ep,num,⟨ck,ct,cm,cw⟩⟩).net.lost<=s.net.lost+500:=by
   rw [hst];have:=(CA (fy x ⟨kind,eI,uT,ep,num,⟨ck,ct,cm,cw⟩⟩).2 (fH s i).net).2;have e2:(fH s i).net.lost=s.net.lost:=rfl;show (ju (fH s i).net _).lost<=_;omega
  have ZM:=dU Gy;have wJ:=dU BS;have HST:=dU hst;have HLS:=dU hls;have qI:=dU hkk;have ZG:=dU hx1;have HLEN:=dU hlen;clear hno hnt Gy BS hst hls lO EN hx2 hx3 hkk hx1 hlen;go_upto_region 6 with (first
   | (go_at_call 55;refine AR.out.mono ?_;rintro e w3 ⟨hfo,dz⟩;obtain ⟨b,d,hb,hd,rfl⟩:=zXh hfo)
   | fail)
  have Cf:Mod dZ w2 w3.drew:=dz.drewN 1;have qB:=qJ.out.mod dz (fun e=>e);have Ex:=dU (lU.out.quiet Cf);have tV:=dU (wK.out.trans (eJ.quiet Cf));have sw:=Ex.out.mN hb (aC hd);rw [Ex.out.kU hb (mL qI.out) hd ZG.out] at sw;have PJ:=dU (yOc (y1.lo n) d (y1.kI d) (y1.kJ d) x ⟨kind,eI,uT,ep,num,⟨ck,ct,cm,cw⟩⟩ (.slice ua cw.length dj) w3.drew sw (AP.out.mod Cf (Qm.none _ _)) Sk.out);obtain ⟨⟨p0,p1,p2,p3,p4,p5,p6,p7,p8⟩,_⟩:=iH qB;have hg3:g<w3.heap.size:=aG hg2 dz.size;have HBB:=dU hb;have xh:=dU hd;clear dz Cf qB sw hfo hb hd AR q2;go_region_with (first
   | (go_at_call 56;refine PJ.out.mono ?_;rintro e w7 ⟨v7,vq,rfl,uI,rG,yJ,zT,ix⟩;obtain ⟨RM,RL,re⟩:=rG.slice;subst re;obtain ⟨y7,uz,uJ,su,po⟩:=Ex.out.yk qI.out HBB.out xh.out ix uI (.inl rfl) zT rG yJ;(have pS:=dU (Lf n c g y7 _ _ _ w7 uz su po (by have:=HLEN.out;have e2:(fH s i).net.lost=s.net.lost:=rfl;show (fH s i).net.lost+_<=_;omega)));(have IP:=dU (tV.out.trans uJ));clear uz uJ su po uI rG yJ zT ix PJ)
   | (go_at_call 48;refine pS.out.mono ?_;rintro e w8 ⟨⟨x8,rfl⟩,y8,uK,xW⟩)
   | fail)
  all_goals
   have PM:=dU (UR n c g y8 _ w8 uK (by rw [<-HST.out];exact ZM.out) (by rw [<-HST.out];exact wJ.out) hc (by rw [<-HST.out];have:=HLS.out;omega));have Zo:=dU (IP.out.trans xW);clear uK xW pS p0 p1 p2 p3 p4 p5 p6 p7 p8;go_wp2_with fail;refine PM.out.mono ?_;rintro e w9 ⟨rfl,y9,El,DD⟩;have HF:Hid (iQ w n c g y (im s i) 0 (.returned .nilIface) w9):=⟨by rw [HE0.out],y9,by rw [HE.out,HST.out];exact El,Zo.out.trans DD⟩;clear El DD PM;go_wp2_with fail;go_ret;exact HF.out
def iS(s:dW)(k:Nat):List Nat:=(List.range (s.line k).nodes.length).filter fun j=>fs s (eG s k j)
theorem Qe(s:dW)(k:Nat):(iS s k).map (eG s k)=fM s k:=by
 have e:(s.line k).nodes=(List.range (s.line k).nodes.length).map (eG s k):=by
  apply bf;intro j;rw [bF];by_cases hj:j<(s.line k).nodes.length
  ·rw [og hj,List.getElem?_range hj];rfl
  ·rw [aj (by omega),aj (by simp;omega)];rfl
 unfold iS fM
 conv=>rhs;rw [e]
 rw [List.filter_map];rfl
theorem Qd(s:dW)(k:Nat):(iS s k).length=(fM s k).length:=by rw [<-Qe,af]
theorem Df{s:dW}{k i j:Nat}(h:(iS s k)[i]?=some j):j<(s.line k).nodes.length/\fs s (eG s k j)=true:=by
 have:=al.1 (aC h);exact ⟨cL.1 this.1,this.2⟩
def vL(w:World)(y:dX)(s:dW)(k b:Nat)(v:Value):Prop:=∃ va vc,v=.slice va (iS s k).length vc/\∀ (i j:Nat),(iS s k)[i]?=some j->∃ lg d,va=some ⟨lg,0,none⟩/\(y.fU b)[j]?=some d/\w.cell? ⟨lg,i,none⟩=some (.pointer (some ⟨d,0,none⟩))/\y.own lg=.no
theorem vL.keep{w w':World}{y y':dX}{s:dW}{k b:Nat}{v:Value}(h:vL w y s k b v)(hK:iD w y w' y')(hn:y'.fU=y.fU):vL w' y' s k b v:=by
 obtain ⟨va,vc,h1,h2⟩:=h;refine ⟨va,vc,h1,fun i j hi=>?_⟩;obtain ⟨lg,d,e1,e2,e3,e4⟩:=h2 i j hi;exact ⟨lg,d,e1,by rw [hn];exact e2,hK.md.cell e3 (fun e=>e e4),by rw [hK.old lg (World.block_lt_of_cell? w _ e3)];exact e4⟩
theorem vL.of{w w':World}{n c g:Nat}{y:dX}{s:dW}{k b:Nat}{v:Value}(h:du w n c g y s)(hk:k<s.lines.length)(hb:y.gH[k]?=some b)(hm:Mod dZ w w')(hr:w'.ownsRow w.heap.size 91 1 v (y.kZ s b).length (jo (y.kZ s b))):vL w' y s k b v:=by
 have hL:=h.line k b _ hb (mL hk);have Na:y.kZ s b=(iS s k).map fun j=>(y.fU b).getD j 0:=by
  have e:y.fU b=(List.range (s.line k).nodes.length).map fun j=>(y.fU b).getD j 0:=by
   apply bf;intro j;rw [bF];by_cases hj:j<(s.line k).nodes.length
   ·rw [List.getElem?_range hj,bS,aH,aA (by rw [hL.len];exact hj)];rfl
   ·rw [aj (by rw [hL.len];omega),aj (by simp;omega)];rfl
  unfold dX.kZ iS
  conv=>lhs;rw [e]
  rw [List.filter_map];congr 1;apply List.filter_congr;intro j hj;have hj':=cL.1 hj;show fs s (y.st s ((y.fU b).getD j 0))=_;have hd:(y.fU b)[j]?=some ((y.fU b).getD j 0):=by rw [aH,aA (by rw [hL.len];exact hj')];rfl
  rw [h.kU hb (mL hk) hd (og hj')]
 have hlen:(y.kZ s b).length=(iS s k).length:=by rw [Na,af]
 obtain ⟨va,vc,hv⟩:=fJ hr;rw [hlen] at hv;refine ⟨va,vc,hv,fun i j hi=>?_⟩;have hil:=(aB.1 hi).1;rcases hr.2 with ⟨e,h0⟩ | ⟨g',cap',cur,e,q1,_⟩
 ·omega
 ·have lI:va=some ⟨g',0,none⟩:=by
   rw [hv] at e;simp only [Value.slice.injEq] at e;exact e.1
  have hr':=hr;rw [e] at hr';have hd:(y.kZ s b)[i]?=some ((y.fU b).getD j 0):=by rw [Na,bF,hi];rfl
  have hc:=hr'.cells (g:=g') rfl i (iz ((y.fU b).getD j 0)) (by rw [<-QW,bF,hd];rfl);have e2:(⟨g',0,none⟩:Addr).add i=⟨g',i,none⟩:=by cases i <;> simp [Addr.add]
  rw [e2] at hc;refine ⟨g',(y.fU b).getD j 0,lI,?_,hc,?_⟩
  ·rw [aH,aA (by rw [hL.len];exact (Df hi).1)];rfl
  ·exact aR fun q=>by have:=(h.own.lt g' q).2;omega
theorem UY(n c g:Nat)(y:dX)(s:dW)(k b:Nat)(w:World)(h:du w n c g y s)(hs:lY s)(hk:k<s.lines.length)(hb:y.gH[k]?=some b) :
  Calls Tryz.prog 46 #[.pointer (some ⟨g,0,none⟩),.int .i64 k] w fun e w'=>∃ v,e=.returned v/\vL w' y s k b v/\Mod dZ w w':=by
 have hl:=(h.line k b _ hb (mL hk)).len;have h4:=hs.nl _ (Im hk);refine (UG n c g y s k b w h hk hb (by omega) (by omega)).mono ?_;rintro e w' ⟨v,rfl,hr,hm⟩;exact ⟨v,rfl,vL.of h hk hb hm hr,hm⟩
def FF(s:dW)(m:Nat):Nat:=((List.range m).map fun k=>((fM s k).map fun n=>n.log.length).sum).sum
theorem zUa(s:dW)(m:Nat):FF s (m+1)=FF s m+((fM s m).map fun n=>n.log.length).sum:=by unfold FF;rw [aY,ao,List.sum_append];simp
def Bl(s:dW)(k i:Nat):Nat:=(((iS s k).take i).map fun j=>(eG s k j).log.length).sum
theorem yEu{s:dW}{k i j:Nat}(h:(iS s k)[i]?=some j):Bl s k (i+1)=Bl s k i+(eG s k j).log.length:=by unfold Bl;rw [qP h,ao,List.sum_append];simp
theorem yJe(s:dW)(k:Nat):Bl s k (iS s k).length=((fM s k).map fun n=>n.log.length).sum:=by unfold Bl;rw [bI,<-Qe,dN];rfl
theorem yBv{s:dW}(h:Safe s):∀ m,m<=s.lines.length->FF s m<=2000*m
 | 0,_=>by simp [FF]
 | m+1,hm=>by
  have ih:=yBv h m (by omega);have hm':m<s.lines.length:=by omega
  rw [zUa];have h4:=h.nJ hm';have hl:(fM s m).length<=(s.line m).nodes.length:=aw _ _;have:((fM s m).map fun n=>n.log.length).sum<=500*(fM s m).length:=by
   have hf:∀ n∈fM s m,n.log.length<=500:=fun n hn=>(h.line m hm').few n (al.1 hn).1;generalize fM s m=l at hf
   induction l with
   | nil=>simp
   | cons a l ih=>
    have h1:=ih (fun n hn=>hf n (by simp [hn]));have h2:=hf a (by simp);simp only [bh,List.sum_cons,aW];omega
  omega
theorem yMu{s:dW}(h:Safe s){k:Nat}(hk:k<s.lines.length)(i:Nat):Bl s k i<=2000:=by
 have h4:=h.nJ hk;have hl:((iS s k).take i).length<=4:=by
  have h1:((iS s k).take i).length<=(iS s k).length:=by rw [aZ];omega
  rw [Qd] at h1;have h2:(fM s k).length<=(s.line k).nodes.length:=aw _ _;omega
 have hf:∀ j∈(iS s k).take i,(eG s k j).log.length<=500:=fun j hj=>by
  obtain ⟨x,hx⟩:=aN (cU hj);exact (h.line k hk).few _ (aC (og (Df hx).1))
 unfold Bl;generalize (iS s k).take i=l at hl hf;have:(l.map fun j=>(eG s k j).log.length).sum<=500*l.length:=by
  clear hl
  induction l with
  | nil=>simp
  | cons a l ih=>
   have h1:=ih (fun n hn=>hf n (by simp [hn]));have h2:=hf a (by simp);simp only [bh,List.sum_cons,aW];omega
 omega
theorem yMt(n c g:Nat)(y:dX)(s:dW)(w:World)(h:du w n c g y s)(hS:Safe s) :
  Calls Tryz.prog 44 #[.pointer (some ⟨g,0,none⟩)] w fun e w'=>e=.returned (.int .i64 (kG s))/\Mod dZ w w':=by
 obtain ⟨c0,-⟩:=kA h.blk;obtain ⟨la,fG,hlv⟩:=fJ h.fm;have hll:=hS.ll;have hlen:=h.iN;rw [hlv,hlen] at c0;have HH:=dU h;have HS:=dU hS;clear h hS hlv;go_enter Tryz.func44,Tryz.ntmps44;go_wp2_with fail;go_loopw [3,12] (fun a0 k0 wr=>∃ (k:Nat),k<=s.lines.length/\k0=.int .i64 k/\a0=.int .i64 (FF s k)/\Mod dZ w wr) (fun _ k0 _=>s.lines.length - (intOf k0).toNat)
 case atStart=>exact ⟨0,aV _,rfl,rfl,Mod.refl _ _⟩
 case round=>
  obtain ⟨k,hkl,rfl,rfl,hM⟩:=hrel;obtain ⟨wo,hwo⟩:∃ x,x=wr:=⟨_,rfl⟩;subst hwo;by_cases hlt:k<s.lines.length
  ·have hH:=HH.out.quiet hM;obtain ⟨b,hb,hL⟩:=hH.nI hlt;have AW:=dU (UY n c g y s k b wo hH HS.out.shape hlt hb);have wA:(k:Int)<(s.lines.length:Int):=by omega
   have qT:(0:Int)<=(k:Int):=by omega
   have hT:=yBv HS.out k hkl;have HI:=dU (fun i=>yMu HS.out hlt i);have HB:=dU hb;have HM:=dU hM;have kg:=dU (zUa s k);have HAL:=dU (yJe s k);clear hH hL hb hM;go_wp2_with fail;refine AW.out.mono ?_;rintro e w1 ⟨v,rfl,hv,di⟩;have hvv:∃ va vc,v=.slice va (iS s k).length vc:=by obtain ⟨va,vc,e,_⟩:=hv;exact ⟨va,vc,e⟩
   obtain ⟨va,vc,lI⟩:=hvv;subst lI;have HV:=dU hv;have fg:=dU (HM.out.trans di);have hl4:(iS s k).length<=4:=by
    rw [Qd];have h2:(fM s k).length<=(s.line k).nodes.length:=aw _ _;have:=HS.out.nJ hlt;omega
   clear hv di AW;go_wp2_with fail;go_loopw [3,19] (fun a0 i0 wi=>∃ (i:Nat),i<=(iS s k).length/\i0=.int .i64 i/\a0=.int .i64 ((FF s k:Int)+(Bl s k i:Int))/\Mod dZ w wi/\Mod dZ w1 wi) (fun _ i0 _=>(iS s k).length - (intOf i0).toNat)
   case atStart=>exact ⟨0,aV _,rfl,by simp [Bl],fg.out,Mod.refl _ _⟩
   case round=>
    obtain ⟨i,hil,rfl,rfl,OP,qj⟩:=hrel;have hIl:=HI.out i;by_cases Cl:i<(iS s k).length
    ·obtain ⟨j,hj⟩:∃ j,(iS s k)[i]?=some j:=⟨_,aA Cl⟩;obtain ⟨va',vc',e1,e2⟩:=HV.out;simp only [Value.slice.injEq] at e1;obtain ⟨e1,-,-⟩:=e1;subst e1;obtain ⟨lg,d,rfl,hd,hc,-⟩:=e2 i j hj;have kP:=HH.out.quiet OP;have hN:=kP.mN HB.out (aC hd);rw [kP.kU HB.out (mL hlt) hd (og (Df hj).1)] at hN;have DU:=dU (Sw _ _ _ _ _ _ hN);have Xy:=qj.cell hc id;have wB:(i:Int)<((iS s k).length:Int):=by omega
     have hi0:(0:Int)<=(i:Int):=by omega
     have fW:=(HS.out.line k hlt).few _ (aC (og (Df hj).1));have Si:=dU (yEu hj);have Zf:=dU OP;have AS:=dU qj;clear kP hN OP qj hj hd hc e2;generalize (eG s k j).log.length=ln at DU fW Si;go_wp2_with fail;refine DU.out.mono ?_;rintro e w3 ⟨rfl,rfl⟩;clear DU;go_wp2_with fail;go_roundw
     case rel=>exact ⟨i+1,by omega,by go_num,by rw [Si.out];go_num,Zf.out,AS.out⟩
     case measure=>simp [intOf];omega
    ·obtain rfl:i=(iS s k).length:=by omega
     have Zf:=dU OP;clear OP qj;go_wp2_with fail;go_roundw
     case rel=>exact ⟨k+1,by omega,by go_num,by rw [kg.out,<-HAL.out];rfl,Zf.out⟩
     case measure=>simp [intOf];omega
  ·obtain rfl:k=s.lines.length:=by omega
   have HM:=dU hM;clear hM;go_wp2_with fail;go_ret;exact ⟨rfl,HM.out⟩
def JV(k:Nat)(h:dW)(j:Nat):dW:=qx (je h k j (kK (eG h k j)).1) (kK (eG h k j)).2
theorem zWj{k j:Nat}{h:dW}(hv:fs h (eG h k j)=true):fD k h j=JV k h j:=by unfold fD;rw [aJ hv];rfl
theorem yIi{k j:Nat}{h:dW}(hv:fs h (eG h k j)=false):fD k h j=h:=by unfold fD;rw [aE (by rw [hv];simp)]
theorem zSx{s:dW}{k:Nat}(hk:k<s.lines.length):∀ (js:List Nat) (S:dW),Safe S->gb s S->(∀ j∈js,j<(s.line k).nodes.length)->js.foldl (fD k) S=(js.filter fun j=>fs s (eG s k j)).foldl (JV k) S
 | [],S,_,_,_=>rfl
 | j :: js,S,a,b,hj=>by
  have hjl:=hj j (by simp);have hlv:fs S (eG S k j)=fs s (eG s k j):=b.mv.lives hjl;obtain ⟨c,d⟩:=a.fD (k:=k) (j:=j) (by rw [b.mv.ll];exact hk);have ih:=zSx hk js (fD k S j) c (b.trans d) (fun x hx=>hj x (by simp [hx]));rw [cM,ih,cJ]
  cases hv:fs s (eG s k j) with
  | true=>rw [hv] at hlv;rw [zWj hlv];rfl
  | false=>rw [hv] at hlv;rw [yIi hlv];rfl
theorem yIh{s:dW}(h:Safe s){k:Nat}(hk:k<s.lines.length):eM s k=(iS s k).foldl (JV k) s:=
 zSx hk (List.range (s.line k).nodes.length) s h (gb.refl s) (fun j hj=>cL.1 hj)
def th(s:dW)(m:Nat):dW:=(List.range m).foldl eM s
theorem zWg(s:dW)(m:Nat):th s (m+1)=eM (th s m) m:=by unfold th;rw [aY,aX];rfl
theorem yId{s:dW}(h:Safe s):∀ m,m<=s.lines.length->Safe (th s m)/\gb s (th s m)/\(th s m).net.lost<=s.net.lost+4*m:=by
 intro m
 induction m with
 | zero=>exact fun _=>⟨h,gb.refl s,by simp [th]⟩
 | succ m ih=>
  intro hm;rw [zWg];obtain ⟨a,b,c⟩:=ih (by omega);have jq:m<(th s m).lines.length:=by rw [b.mv.ll];omega
  obtain ⟨a',b'⟩:=Lq a jq;obtain ⟨_,d',_⟩:=US m (List.range ((th s m).line m).nodes.length) (th s m);have h4:=a.nJ jq;rw [List.length_range] at d';refine ⟨a',b.trans b',?_⟩;show (eM (th s m) m).net.lost<=_;unfold eM;omega
def sR(s:dW)(k i:Nat):dW:=((iS s k).take i).foldl (JV k) s
theorem zWh{s:dW}{k i j:Nat}(h:(iS s k)[i]?=some j):sR s k (i+1)=JV k (sR s k i) j:=by unfold sR;rw [qP h,aX];rfl
theorem yIf{s:dW}(h:Safe s){k:Nat}(hk:k<s.lines.length):∀ i,i<=(iS s k).length->Safe (sR s k i)/\gb s (sR s k i)/\(sR s k i).net.lost<=s.net.lost+i:=by
 intro i
 induction i with
 | zero=>exact fun _=>⟨h,gb.refl s,by simp [sR]⟩
 | succ i ih=>
  intro hi;obtain ⟨a,b,c⟩:=ih (by omega);obtain ⟨j,hj⟩:∃ j,(iS s k)[i]?=some j:=⟨_,aA (by omega)⟩;obtain ⟨hjl,hjv⟩:=Df hj;rw [zWh hj];have hv:fs (sR s k i) (eG (sR s k i) k j)=true:=by rw [b.mv.lives hjl];exact hjv
  rw [<-zWj hv];obtain ⟨c',d'⟩:=a.fD (k:=k) (j:=j) (by rw [b.mv.ll];exact hk);have e:=zWk k (sR s k i) j;exact ⟨c',b.trans d',by omega⟩
theorem yGi(n c g:Nat)(y:dX)(s:dW)(w:World)(h:du w n c g y s)(hS:Safe s)(hlo:s.net.lost+20<=4611686018427387904) :
  Calls Tryz.prog 31 #[.pointer (some ⟨g,0,none⟩)] w fun e w'=>e=.returned (.tuple #[])/\∃ y',du w' n c g y' (jv s)/\eJ w y w' y':=by
 obtain ⟨c0,-⟩:=kA h.blk;obtain ⟨la,fG,hlv⟩:=fJ h.fm;have hll:=hS.ll;have hlen:=h.iN;rw [hlv,hlen] at c0;have HH:=dU h;have HS:=dU hS;clear h hS hlv;go_enter Tryz.func31,Tryz.ntmps31;go_wp2_with fail;go_loopw [10] (fun k0 wr=>∃ (k:Nat) (yr:dX),k<=s.lines.length/\k0=.int .i64 k/\du wr n c g yr (th s k)/\eJ w y wr yr) (fun k0 _=>s.lines.length - (intOf k0).toNat)
 case atStart=>exact ⟨0,y,aV _,rfl,HH.out,eJ.refl _ _⟩
 case round=>
  obtain ⟨k,yr,hkl,rfl,hH,hK⟩:=hrel;obtain ⟨wo,hwo⟩:∃ x,x=wr:=⟨_,rfl⟩;subst hwo;by_cases hlt:k<s.lines.length
  ·obtain ⟨tS,tT,tL⟩:=yId HS.out k hkl;have hk':k<(th s k).lines.length:=by rw [tT.mv.ll];exact hlt
   have Nf:(th s k).net.lost+4<=4611686018427387904:=by omega
   have Jv:=zWg s k;rw [yIh tS hk'] at Jv;have kg:=dU Jv;clear Jv tT tL;generalize th s k=S at hH tS Nf hk' kg;obtain ⟨b,hb,hL⟩:=hH.nI hk';have AW:=dU (UY n c g yr S k b wo hH tS.shape hk' hb);have wA:(k:Int)<(s.lines.length:Int):=by omega
   have qT:(0:Int)<=(k:Int):=by omega
   have jG:=dU hH;have nj:=dU hK;have HB:=dU hb;have oY:=dU tS;have qI:=dU hk';clear hH hK hL hb tS hk';go_wp2_with fail;refine AW.out.mono ?_;rintro e w1 ⟨v,rfl,hv,di⟩;have hvv:∃ va vc,v=.slice va (iS S k).length vc:=by obtain ⟨va,vc,e,_⟩:=hv;exact ⟨va,vc,e⟩
   obtain ⟨va,vc,lI⟩:=hvv;subst lI;have HV:=dU hv;have sM:=dU (jG.out.quiet di);have Aa:=dU (nj.out.trans (eJ.quiet di));have hl4:(iS S k).length<=4:=by
    rw [Qd];have h2:(fM S k).length<=(S.line k).nodes.length:=aw _ _;have:=oY.out.nJ qI.out;omega
   clear hv di AW;go_wp2_with fail;go_loopw [17] (fun i0 wi=>∃ (i:Nat) (yi:dX),i<=(iS S k).length/\i0=.int .i64 i/\du wi n c g yi (sR S k i)/\eJ w y wi yi/\eJ w1 yr wi yi) (fun i0 _=>(iS S k).length - (intOf i0).toNat)
   case atStart=>exact ⟨0,yr,aV _,rfl,sM.out,Aa.out,eJ.refl _ _⟩
   case round=>
    obtain ⟨i,yi,hil,rfl,kP,rn,sy⟩:=hrel;obtain ⟨wi,zC⟩:∃ x,x=wr:=⟨_,rfl⟩;subst zC;by_cases Cl:i<(iS S k).length
    ·obtain ⟨j,hj⟩:∃ j,(iS S k)[i]?=some j:=⟨_,aA Cl⟩;obtain ⟨va',vc',e1,e2⟩:=HV.out.keep sy.st sy.n;simp only [Value.slice.injEq] at e1;obtain ⟨e1,-,-⟩:=e1;subst e1;obtain ⟨lg,d,rfl,hd,hc,-⟩:=e2 i j hj;obtain ⟨tS2,Vf,tL2⟩:=yIf oY.out qI.out i hil;have AM:=dU (zWh hj);have hjl:=(Df hj).1;have zh:j<((sR S k i).line k).nodes.length:=by rw [Vf.mv.len];exact hjl
     have xN:k<(sR S k i).lines.length:=by rw [Vf.mv.ll];exact qI.out
     generalize sR S k i=R at kP tS2 tL2 AM zh xN;have Cu:yi.gH[k]?=some b:=by rw [sy.l];exact HB.out
     have oy:=kP.quiet ((Mod.refl dZ wi).drewN 1);have hN:=oy.mN Cu (aC hd);rw [oy.kU Cu (mL xN) hd (og zh)] at hN;have DM:=dU (Ld (yi.lo n) d (yi.kI d) (yi.kJ d) (eG R k j) wi.drew hN);have wB:(i:Int)<((iS S k).length:Int):=by omega
     have hi0:(0:Int)<=(i:Int):=by omega
     have hlen:=Is (eG R k j);have HLEN:Hid (R.net.lost+((kK (eG R k j)).2.length:Int)<=4611686018427387904):=by
      unfold Hid;omega
     have IS:Hid (du wi.drew n c g yi R):=oy;have Pd:=dU (rn.trans (eJ.quiet ((Mod.refl dZ wi).drewN 1)));have Zl:=dU (sy.trans (eJ.quiet ((Mod.refl dZ wi).drewN 1)));have HBi:=dU Cu;have Zz:=dU hd;have HKR:=dU xN;have Nr:=kP.blk.lt;clear kP hN hj hd e2 tS2 Vf tL2 oy rn sy Cu xN hjl zh hlen;go_upto_region 6 with fail;go_region_with (first
      | (go_at_call 59;refine DM.out.mono ?_;rintro e w7 ⟨v7,rfl,uI,rG,yJ,ix⟩;obtain ⟨RM,RL,re⟩:=rG.slice;subst re;obtain ⟨y7,uz,uJ,su,po⟩:=IS.out.yk HKR.out HBi.out Zz.out (ix.mono (fun _ _ e=>.inl e)) uI (.inl rfl) (.inl rfl) rG yJ;(have pS:=dU (Lf n c g y7 _ _ _ w7 uz su po HLEN.out));(have IP:=dU (Pd.out.trans uJ));(have Es:=dU (Zl.out.trans uJ));clear uz uJ su po uI rG yJ ix DM)
      | (go_at_call 48;refine pS.out.mono ?_;rintro e w8 ⟨⟨x8,rfl⟩,y8,uK,xW⟩)
      | fail)
     all_goals
      have HF:Hid (du w8 n c g y8 (sR S k (i+1))/\eJ w y w8 y8/\eJ w1 yr w8 y8):=⟨by rw [AM.out];exact uK,IP.out.trans xW,Es.out.trans xW⟩;clear uK xW pS hc;go_wp2_with fail;go_roundw
      case rel=>exact ⟨i+1,y8,by omega,by go_num,HF.out.1,HF.out.2.1,HF.out.2.2⟩
      case measure=>simp [intOf];omega
    ·obtain rfl:i=(iS S k).length:=by omega
     have HF:Hid (du wi n c g yi (th s (k+1))/\eJ w y wi yi):=by
      have e:sR S k (iS S k).length=(iS S k).foldl (JV k) S:=by unfold sR;rw [bI]
      unfold Hid;rw [kg.out,<-e];exact ⟨kP,rn⟩
     clear kP rn sy;go_wp2_with fail;go_roundw
     case rel=>exact ⟨k+1,yi,by omega,by go_num,HF.out.1,HF.out.2⟩
     case measure=>simp [intOf];omega
  ·obtain rfl:k=s.lines.length:=by omega
   have HF:Hid (∃ y',du wo n c g y' (jv s)/\eJ w y wo y'):=⟨yr,hH,hK⟩;clear hH hK;go_wp2_with fail;go_end0;exact ⟨rfl,HF.out⟩
end Go.Proofs.YtmaiggbnceejiaaGreatDoor
