import Derived.Test.YtmaiggbnceejiaaGreatDoorL45
set_option linter.unusedVariables false
set_option maxRecDepth 100000
set_option maxHeartbeats 16000000
namespace Go.Proofs.YtmaiggbnceejiaaGreatDoor
open Go.RowKit Go.Lib Go.Maps
variable {W w' wt:World}{gs g m lb:Nat}{s:eF}{vs us:List Value}{ts:List eY}{v ov:Value}
structure KF(W:World)(gs g m lb:Nat)(s:eF)(nw fN:Int)(w:World)(ops:List fm)(H:dp)(y:dq)(xv:Value)(vs:List Value)(ov:Value):Prop where
 len:ops.length=4
 rest:Rest H
 st:iB H ((s.U.length:Int)+1)=3
 al:FN H=true
 tl:H.U.length=s.U.length+1
 fits:¬IK (lZ {s with h:=H}++[⟨ops,s.now+1,s.now+2⟩]) [] jv
 short:∀t∈lZ {s with h:=H}++[⟨ops,s.now+1,s.now+2⟩],∀o∈t.ops,o.key.size<=20/\o.value.size<=9
 tp:nZ W (Ki lb ov) gs g (2*m+4+2*4) ⟨H,s.U,nw,s.safe,s.nodes⟩ y xv vs w
 Z:dx w lb [ov,.int .i64 (s.now+1),.int .i64 fN] 46
 row:nG w W.heap.size ov ops
 lw:W.heap.size<=lb
def vT(W:World)(gs g m lb:Nat)(s:eF)(c d:Int)(w:World):Prop:=∃a H y b vs ov,KF W gs g m lb s c d w a H y b vs ov
theorem yp.end_{wr:World}(O:yp W gs g m lb s 4 wr)(r:zr s.U)(hE:ET W)(l:1<W.heap.size)(S:m<=120):wr.cell? ⟨gs,0,none⟩=some (.pointer (some ⟨g,0,none⟩))/\gs<wr.heap.size /\
  Calls Tryz.prog 15 #[.pointer (some ⟨g,0,none⟩),.int .i64 ((s.U.length:Int)+1)] wr λe w'=>e=.returned .nilIface/\w'.cell? ⟨gs,0,none⟩=some (.pointer (some ⟨g,0,none⟩))/\gs<w'.heap.size /\
   Calls Tryz.prog 16 #[.pointer (some ⟨g,0,none⟩)] w' λe A=>∃w,e=.returned w/\vT W gs g m lb s (s.now+1) 0 A:=by
 obtain⟨p,h,y,Q,vs,B,ov,M,b⟩:=O;have L:=b.le;obtain⟨C,F,a⟩:=b.SD.end_ r;have N:((s.U.length:Int)+1)=((s.U.length+1:Nat):Int):=by omega
 have i:jP 0=.nilIface:=pM;obtain⟨E,hEq⟩:∃z,z=gK h ((s.U.length+1:Nat):Int):=⟨_,rfl⟩;obtain⟨H,hH⟩:∃z,z=lQ E.1:=⟨_,rfl⟩;rw[<-hEq]at C F a;have f:=a H hH;clear a;have K:zm W (2*m+4+2*4) B ⟨h,s.U,s.now+1,s.safe,s.nodes⟩:=⟨b.SD.tail,hE,l,by omega,by omega⟩;have J:zm W (2*m+4+2*4) (B+1) ⟨E.1,s.U,s.now+1,s.safe,s.nodes⟩:=⟨F,hE,l,by omega,by omega⟩;have c:=b.tl.end_ K ((s.U.length+1:Nat):Int);dsimp only at c;rw[<-hEq,C,i]at c;refine⟨(gb b.tl.fJ.Z).1,b.tl.fJ.Z.lt,?_⟩;rw[N];refine c.mono ?_;rintro e w'⟨rfl,⟨P,R,I,d⟩,D⟩;refine⟨rfl,(gb d.fJ.Z).1,d.fJ.Z.lt,?_⟩;have x:=d.calm J;dsimp only at x;rw[<-hH]at x;refine x.mono ?_;rintro e A⟨w,rfl,⟨G,n,o,u⟩,j⟩;exact⟨w,rfl,p,H,G,n,o,ov,M,f.1,f.2.1,f.2.2.1,f.2.2.2.1,f.2.2.2.2.1,f.2.2.2.2.2,u,(b.Z.mod D (λq=>q (.inl rfl))).mod j (λq=>q (.inl rfl)),(b.row.mod D (λk t q=>q (.inr t))).mod j (λk t q=>q (.inr t)),b.lw⟩
section
variable {W w:World}{gs g m lb:Nat}{s:eF}{nw fN:Int}
theorem vT.cells(h:vT W gs g m lb s nw fN w):gs<w.heap.size/\w.cell? ⟨gs,0,none⟩=some (.pointer (some ⟨g,0,none⟩))/\w.cell? ⟨gs,2,none⟩=some (.int .i64 nw)/\w.frozen? ⟨gs,2,none⟩=false/\lb<w.heap.size/\w.frozen? ⟨lb,2,none⟩=false/\w.cell? ⟨lb,2,none⟩=some (.int .i64 fN):=by
 obtain⟨a,H,y,d,vs,ov,h⟩:=h;obtain⟨c,e,b,-,-⟩:=gb h.tp.fJ.Z;exact⟨h.tp.fJ.Z.lt,c,b,h.tp.fJ.Z.frozen 2,h.Z.lt,h.Z.frozen 2,h.Z.cell 2 rfl⟩
theorem vT.tick(h:vT W gs g m lb s nw fN w)(t:Int):vT W gs g m lb s t fN (w.setCell ⟨gs,2,none⟩ (.int .i64 t)):=by
 obtain⟨b,H,y,f,vs,ov,h⟩:=h;have d:Mod (eQ gs) w (w.setCell ⟨gs,2,none⟩ (.int .i64 t)):=Mod.eE gs 2 _;have a:∀k,Ki lb ov k->¬eQ gs k:=λk c e=>(h.tp.side k c).2.2 (.inl e);exact⟨b,H,y,f,vs,ov,h.len,h.rest,h.st,h.al,h.tl,h.fits,h.short,h.tp.tick t,h.Z.mod d (a _ (.inl rfl)),h.row.mod d (λk c=>a k (.inr c)),h.lw⟩
theorem vT.rJ(h:vT W gs g m lb s nw fN w)(t:Int):vT W gs g m lb s nw t (w.setCell ⟨lb,2,none⟩ (.int .i64 t)):=by
 obtain⟨d,H,y,j,vs,ov,h⟩:=h;have b:Mod (eQ lb) w (w.setCell ⟨lb,2,none⟩ (.int .i64 t)):=Mod.eE lb 2 _;have l:=h.lw;have f:∀k,ov.ownBlock=some k->¬eQ lb k:=λk a e=>by
  have c:k=lb:=e;obtain⟨_,_,p,i⟩:=fs h.row a;have o:w.heap[lb]?=some (.cells [ov,.int .i64 (s.now+1),.int .i64 fN].toArray 46 (0,0)):=h.Z;rw[c,o]at i;simp at i
 have n:Qm w (y.lo W.heap.size) (eQ lb):=λk a e=>by
  have c:k=lb:=e;rw[c];exact Wk (t:=46) (show w.heap[lb]?=_ from h.Z) (by decide) l
 refine⟨d,H,y,j,vs,ov,h.len,h.rest,h.st,h.al,h.tl,h.fits,h.short,⟨h.tp.md.trans' b (λk a e=>by have c:k=lb:=e;omega),h.tp.fJ.zV b n (λk a e=>(h.tp.side k (.inl e)).2),h.tp.gl,λk a=>(have q:=h.tp.side k a;⟨aJ q.1 b.size,q.2⟩)⟩,?_,h.row.mod b f,h.lw⟩;have:=h.Z.set 2 (.int .i64 t);exact this
theorem vT.asks(h:vT W gs g m lb s nw fN w):(Calls Tryz.prog 11 #[.pointer (some ⟨g,0,none⟩),.int .i64 ((s.U.length:Int)+1)] w λe w'=>e=.returned (.int .i64 3)/\w'=w)/\(Calls Tryz.prog 17 #[.pointer (some ⟨g,0,none⟩)] w λe w'=>e=.returned (.bool true)/\Mod dt w w'):=by
 obtain⟨d,H,y,f,vs,ov,h⟩:=h;have a:=h.tp.state h.rest.c.safe.tl ((s.U.length:Int)+1);dsimp only at a;rw[h.st]at a;have b:=yTg W.heap.size _ g y H w h.tp.fJ.house h.rest.c.safe;rw[h.al]at b;exact⟨a,b⟩
theorem vT.quiet(h:vT W gs g m lb s nw fN w)(b:Mod dt w w'):vT W gs g m lb s nw fN w':=by
 obtain⟨a,H,y,c,vs,ov,h⟩:=h;exact⟨a,H,y,c,vs,ov,h.len,h.rest,h.st,h.al,h.tl,h.fits,h.short,h.tp.quiet b,h.Z.mod b id,h.row.mod b (λ_ _=>id),h.lw⟩
end
theorem td.quiet{w a:World}(h:td w s vs ts v us w')(b:Mod dt w' a):td w s vs ts v us a:=⟨h.row.mod b (λ_ _=>id),h.sub,h.md.trans b⟩
theorem yLf{B b:Nat}{t:eY}(a:jt 46 wt B v ts us)(p:dx wt b [ov,.int .i64 t.eP,.int .i64 t.fN] 46)(j:ov.oneCell'=true)(C:ts.length<=100)(hB:B<=wt.heap.size) :
  ∃d c,(Builtin.append_ #[29,29] 29 #[v,.slice (some ⟨b,0,none⟩) 1 1]).run Tryz.prog wt=.ok d c/\jt 46 c B d (ts++[t]) (us++[ov])/\Mod (λk=>v.ownBlock=some k) wt c:=by
 obtain⟨n,i,h,f,e⟩:=A3 Tryz.tK;have z:∀q∈sH t ov,q.oneCell'=true:=λq l=>by
  simp[sH]at l;obtain rfl|rfl|rfl:=l
  .exact j
  .rfl
  .rfl
 obtain⟨d,c,r,y,u,_,A⟩:=C0 (P:=Tryz.prog) wt B 29 29 46 n _ 3 40 Tryz.wO i h f e rfl (by omega) _ _ _ a.2 ⟨b,0,none⟩ 1 1 (sH t ov) rfl (A7 (show wt.heap[b]?=_ from p)) z (by unfold maxLen;omega) (by omega) hB;refine⟨d,c,r,⟨by rw[aE,aE,a.1];rfl,?_⟩,(Mod.refl _ _).grown u (λx o _=>o)⟩;rw[Wd _ _ _ _ a.1,aE];exact y
theorem zZj{n C b:World}{a:List fm}{H:dp}{y:dq}{I:Value}{B:Value}(h:KF W gs g m lb s (s.now+2) (s.now+2) n a H y I vs ov)(X:s.U.length<=7)(L:∀t∈s.U,t.ops.length<=200)(q:vH s)(V:0<=s.now/\s.now<=1000)(G:Mod dt n C)(i:td C ⟨H,s.U,s.now+2,s.safe,s.nodes⟩ vs (lZ {s with h:=H}) v us wt)
  (S:jt 46 b C.heap.size B (lZ {s with h:=H}++[⟨a,s.now+1,s.now+2⟩]) (us++[ov])) (M:Mod (λk=>v.ownBlock=some k) wt b) :
  (Calls Tryz.prog 8 #[B] b λe w'=>∃r,e=.returned (.tuple #[r,.bool true])/\Mod dt b w')/\Mod dt n b:=by
 have F:Mod dt n wt:=G.trans i.md;have Z:=G.size;have f:Mod dt n b:=F.trans' M (λk c e=>by have:=(fs i.row.2 e).1;omega);have d:∀t∈lZ {s with h:=H},t∈s.U:=λt ht=>yTw (s:={s with h:=H}) ht;have E:nz b b.heap.size B (lZ {s with h:=H}++[⟨a,s.now+1,s.now+2⟩]):=by
  refine S.nO (aD _) λk t u c l=>?_;have x:∀o∈t.ops,Rv o:=λo O=>by
   have:=h.short t (aC c) o O;exact⟨by unfold maxLen;omega,by unfold maxLen;omega⟩
  by_cases A:k<(lZ {s with h:=H}).length
  .rw[aG A]at c;rw[aG (by rw[i.row.1];exact A)]at l;obtain⟨j,K,J⟩:=i.sub k t u c l;have N:=(h.tp.fJ.ops j t u K J).mod f (λ_ _=>id);have ht:=q t (d t (aC c));exact⟨Hp.nO (t:=51) ⟨N,x⟩ (aD _),by unfold gi;omega,by unfold gi;omega⟩
  .rw[aL (by omega)]at c;rw[aL (by rw[i.row.1];omega),i.row.1]at l;have D:k-(lZ {s with h:=H}).length=0:=by
    have:=(aB.1 c).1;simp at this;omega
   rw[D]at c l;simp at c l;subst c l;exact⟨Hp.nO (t:=51) ⟨h.row.mod f (λ_ _=>id),x⟩ (aD _),by unfold gi;show _<=s.now+1/\s.now+1<=_;omega,by unfold gi;show _<=s.now+2/\s.now+2<=_;omega⟩
 have z:(lZ {s with h:=H}++[(⟨a,s.now+1,s.now+2⟩:eY)]).length<=8:=by
  have R:=yJp {s with h:=H};have Y:(lZ {s with h:=H}).length<=s.U.length:=R;rw[aE,List.length_singleton];omega
 refine⟨(yBi b.heap.size B _ b E (aD _) z (λt ht=>?_)).mono ?_,f⟩
 .rcases aM.1 ht with p|p
  .exact L t (d t p)
  .simp at p;rw[p];show a.length<=200;have:=h.len;omega
 .rintro e w'⟨Q,⟨r,o,T,rfl,_⟩|⟨rfl,P⟩⟩
  .exact⟨r,rfl,Q⟩
  .exact absurd P h.fits
theorem houseLasts_any(nodes:Int)(lv:Value)(B:List ActD)(W:World)(hl:ActsV W W.heap.size lv B)(hE:ET W)(Y:NMo W W.heap.size)(p:1<W.heap.size) :
  Calls Tryz.prog 4 #[.int .i64 nodes,lv] W λe W'=>e=.returned (.bool true)/\Mod dt W W':=by
 have HB:=dk (ySr sZ nodes true lv B W (λk hk=>sZ.new hk) (λm s x h1 h2 h3=>h3.uS h1 h2 x) hl hE Y p);obtain⟨la,fQ,hlv,hlc,hlm⟩:=gD.slice hl;subst hlv;have HE:=dk hE;have Uu:=dk Y;clear hl hE Y;go_enter Tryz.func4,Tryz.ntmps4;go_wp2_with fail;refine HB.out.mono ?_;rintro e w1 (⟨V,rfl,dy⟩|⟨V,gs,g,rfl,hR⟩)
 .have HM:=dk dy;clear dy HB;go_wp2_with fail;go_ret;exact⟨rfl,HM.out⟩
 have HFX:=dk (yRs hR HE.out Uu.out p V);clear hR HB;obtain⟨m,hm⟩:∃z,z=B.length:=⟨_,rfl⟩;rw[<-hm]at HFX V;clear hm;go_wp2_with fail;refine HFX.out.mono ?_;rintro e w2⟨rfl,hC2⟩;have nX:=dk hC2;clear hC2 HFX;go_wp2_with fail;refine nX.out.mono ?_;rintro e w3⟨rfl,s,hF⟩;obtain⟨y3,xv3,vs3,hT3⟩:=hF.ex;have h7:=hF.few;have H0:Hid (BL W gs g m s 0 w3):=⟨s.h,y3,xv3,vs3,m+2,by omega,hF.last,hT3⟩;have kQ:=dk hF.none;have HF:=dk hF;clear hT3 hF nX;go_upto_block 0 with fail;refine wp_mono (Q:=wG ?RA) (lasA _ _ _ _ _ _ _ _ _ _ _ _ _ _ _ _ _ _ _ _ _ _ _ _ _ _ _ _ _ _ _ _ _ _ _ _ _ _ _ _ _ _ _ _ _ _ _ _ _ _ _ _ _ _ _ _ _ _ _ _ _ _ _ _ _ _ _ _ _ _ _ _ _ _ _ _ _ _ _ _ _ _ _ _ _ _ _ _ _ _ _ _ _ _ _ _ _ _ _ _ _ _ _ _ _ _ _ _ _ _ _ _ _ _ _ _ _ _ _ _ _ _ _ _ _ _ _ _ _ _ _ _ _ _ _ _ _ _ _ _ _ _ _ _ _ _ _ _ _ _ _ _ _ _ _ _ _ _ _ _ _ _ W gs g m s w3 kQ HE p V h7 H0 (R:=?RA) ?hA) ?hEA
 case hEA=>
  intro e a' wd b
  cases e with
 |normal=>exact b
 |ret=>exact b.elim
 |exit id=>exact b.elim
 |goto l=>exact b.elim
 |panic ch=>exact b.elim
 |outgrown=>exact b.elim
 case hA=>
  intro u4 u7 u32 u33 u34 u35 u36 u37 u38 u39 u40 u41 u42 u43 u44 u45 u46 u47 u48 u49 u50 u51 u52 u53 u54 u55 u56 u57 u58 w4 L;rename_i Kc Bi;refine Bi _ _ ?_;clear Bi Kc H0;obtain⟨xa,fY,O,T,d1,d2⟩:=L.cells;have f2:w4.frozen? ⟨gs,2,none⟩=false:=by obtain⟨h,y,xv,vs,m',hm',hL,hT⟩:=L;exact hT.fJ.Z.frozen 2
  have ew:wrap64 (s.now+1)=s.now+1:=by have:=HF.out.now;exact B7 _ ⟨by omega,by omega⟩
  have QS:=dk (yQy L kQ.out HE.out p V h7);obtain⟨w5,oH⟩:∃z,z=w4.setCell ⟨gs,2,none⟩ (.int .i64 (s.now+1)):=⟨_,rfl⟩;have hcz:=L.AO (s.now+1);rw[<-oH]at hcz;obtain⟨e0,z5⟩:=hcz;rw[<-oH]at QS;clear L;go_upto_region 15 with fail;rw[<-oH];clear oH T d1 d2 f2 O;go_wp2_with fail;refine QS.out.mono ?_;rintro e w6⟨rfl,FE⟩;obtain⟨z6,g0,g2⟩:=FE.cells;have Yh:=dk FE;clear FE QS e0 z5;obtain⟨w7,hw7⟩:∃z,z=w6.alloc (.cells #[.slice none 0 0,.int .i64 (s.now+1),.int .i64 0] 46):=⟨_,rfl⟩;have HG0:Hid (yp W gs g m w6.heap.size s 0 w7):=by unfold Hid;rw[hw7];exact Yh.out.gets
  obtain⟨lb,hlb⟩:∃z,z=w6.heap.size:=⟨_,rfl⟩;rw[<-hlb]at HG0;go_upto_region 17 with fail;rw[<-hw7,<-hlb];clear hw7 hlb g0 g2 z6 Yh;obtain⟨nb,no,iq,n0,n1,n2,n3⟩:=Uu.out;have Ht:=dk n2;have vz:=dk n3;clear n2 n3 Uu;go_upto_block 3 with fail;refine wp_mono (Q:=wG ?RB) (lasB _ _ _ _ _ _ _ _ _ _ _ _ _ _ _ _ _ _ _ _ _ _ _ _ _ _ _ _ _ _ _ _ _ _ _ _ _ _ _ _ _ _ _ _ _ _ _ _ _ _ _ _ _ _ _ _ _ _ _ _ _ _ _ _ _ _ _ _ _ _ _ _ _ _ _ _ _ _ _ _ _ _ _ _ _ _ _ _ _ _ _ _ _ _ _ _ _ _ _ _ _ _ _ _ _ _ _ _ _ _ _ _ _ _ _ _ _ _ _ _ _ _ _ _ _ _ _ _ _ _ _ _ _ _ _ _ _ _ _ _ _ _ _ _ _ _ _ _ _ _ _ _ _ _ _ _ _ _ _ _ W gs g m lb nb no iq s w7 p V HE n0 n1 Ht vz HG0 (R:=?RB) ?hB) ?hEB
  case hEB=>
   intro e a' wd b
   cases e with
  |normal=>exact b
  |ret=>exact b.elim
  |exit id=>exact b.elim
  |goto l=>exact b.elim
  |panic ch=>exact b.elim
  |outgrown=>exact b.elim
  case hB=>
   intro u4 u11 u12 u13 u14 u81 u82 u83 u84 u85 u86 u87 u88 u89 u90 u91 u92 u93 u94 u95 u96 u97 u98 u99 u100 u101 u102 u103 u104 u105 u106 u107 u108 u109 u110 u111 u112 u113 u114 w8 hG8;rename_i Kc Bi;refine Bi _ _ ?_;clear Bi Kc HG0;obtain⟨T,O,hC⟩:=hG8.end_ HF.out.kH.short HE.out p V;have HEN:=dk hC;clear hC hG8;go_wp2_with fail;refine HEN.out.mono ?_;rintro e w9⟨rfl,f0,zg9,hC9⟩;have I:=dk hC9;clear hC9 HEN T O;go_wp2_with fail;refine I.out.mono ?_;rintro e w10⟨ev,rfl,L⟩;have HD:=dk L;obtain⟨O,T,d2,f2,zl,fl,dl⟩:=L.cells;clear L I f0 zg9;have ew:wrap64 (s.now+1+1)=s.now+2:=by have:=HF.out.now;rw[show s.now+1+1=s.now+2 by omega];exact B7 _ ⟨by omega,by omega⟩
   obtain⟨w11,LX⟩:∃z,z=w10.setCell ⟨gs,2,none⟩ (.int .i64 (s.now+2)):=⟨_,rfl⟩;have Nl:Hid (vT W gs g m lb s (s.now+2) 0 w11):=by unfold Hid;rw[LX];exact HD.out.tick _
   go_upto_region 30 with fail;rw[<-LX];clear LX T d2 f2 O zl fl dl HD;obtain⟨O,T,d2,f2,zl,fl,dl⟩:=Nl.out.cells;obtain⟨w12,LW⟩:∃z,z=w11.setCell ⟨lb,2,none⟩ (.int .i64 (s.now+2)):=⟨_,rfl⟩;have Hz:Hid (vT W gs g m lb s (s.now+2) (s.now+2) w12):=by unfold Hid;rw[LW];exact Nl.out.rJ _
   go_upto_region 31 with fail;rw[<-LW];clear LW T d2 f2 O zl fl dl Nl;obtain⟨O,T,d2,f2,zl,fl,dl⟩:=Hz.out.cells;have HAS:=dk Hz.out.asks;clear d2 f2 zl fl dl;go_wp2_with (first
   |(go_at_call 11;refine HAS.out.1.mono ?_;rintro e w'⟨rfl,rfl⟩)
   |(go_at_call 17;refine HAS.out.2.mono ?_;rintro e j⟨rfl,jO⟩)
   |fail)
   obtain⟨ops,H,y,xv,vs,ov,F⟩:=Hz.out.quiet jO;obtain⟨oa,jL,hov⟩:=fU F.row;have b0:=F.Z.cell 0 rfl;have b1:=F.Z.cell 1 rfl;have b2:=F.Z.cell 2 rfl;have zl:=F.Z.lt;have HOV:Hid (ov.oneCell'=true):=by unfold Hid;rw[hov];rfl
   have VK:Hid (s.U.length<=7/\H.U.length<=60):=⟨h7,F.rest.c.safe.tl⟩;have Hv:Hid ((lZ {s with h:=H}).length<=100):=by
    have h1:=yJp {s with h:=H};have h2:(lZ {s with h:=H}).length<=s.U.length:=h1;unfold Hid;omega
   have sB:Hid (∀i,Mod dt j i->Calls Tryz.prog 9 #[.pointer (some ⟨gs,0,none⟩)] i (Jl i ⟨H,s.U,s.now+2,s.safe,s.nodes⟩ vs)):=λi b=>yTx W.heap.size _ gs g y xv vs ⟨H,s.U,s.now+2,s.safe,s.nodes⟩ i (F.tp.fJ.quiet b) (by show s.U.length<=100;omega) VK.out.2;have pX:Hid (∀t∈s.U,t.ops.length<=200):=λt ht=>by have:=HF.out.ops t ht;omega
   have HTM:=dk HF.out.kH.tim;have yb:Hid (0<=s.now/\s.now<=1000):=by have:=HF.out.now;unfold Hid;omega
   have QK:=dk F.tp.md;have HP:=dk F;have P:Hid (j.drew.cell? ⟨lb,0,none⟩=some ov/\j.drew.cell? ⟨lb,1,none⟩=some (.int .i64 (s.now+1))/\j.drew.cell? ⟨lb,2,none⟩=some (.int .i64 (s.now+2))):=⟨b0,b1,b2⟩;have ml:Mod dt j (j.alloc (.cells #[ov,.int .i64 (s.now+1),.int .i64 (s.now+2)] 46)).drew:=((Mod.refl dt j).alloc _).drew;have I:Hid ((j.alloc (.cells #[ov,.int .i64 (s.now+1),.int .i64 (s.now+2)] 46)).drew.cell? ⟨lb,0,none⟩=some ov/\(j.alloc (.cells #[ov,.int .i64 (s.now+1),.int .i64 (s.now+2)] 46)).drew.cell? ⟨lb,1,none⟩=some (.int .i64 (s.now+1))/\(j.alloc (.cells #[ov,.int .i64 (s.now+1),.int .i64 (s.now+2)] 46)).drew.cell? ⟨lb,2,none⟩=some (.int .i64 (s.now+2))):=⟨ml.cell b0 id,ml.cell b1 id,ml.cell b2 id⟩;have Aw:=dk ml;clear F hov jO Hz HAS ml;refine IJ λfr M=>?_;refine IM λQ1 X=>?_;have o:∀(d:Nat) (v:Value) (c:List PanicEntry) (a:Act) (w:World),Q1 (.panic c) (a.put (some d) v) w->Q1 (.panic c) a w:=λd v c a w h=>by rw[X]at h⊢;exact h
   have ti:=dk X;clear X;have hsz:fr.tmps.size=164:=by rw[M];rfl
   obtain⟨_,t5⟩:∃h:5<fr.tmps.size,fr.tmps[5]=.pointer (some ⟨gs,0,none⟩):=aF.1 (by rw[M];rfl);obtain⟨_,t10⟩:∃h:10<fr.tmps.size,fr.tmps[10]=.pointer (some ⟨lb,0,none⟩):=aF.1 (by rw[M];rfl);have kI:=dk M;clear M;refine CM 99 (λi=>i.cell? ⟨lb,0,none⟩=some ov/\i.cell? ⟨lb,1,none⟩=some (.int .i64 (s.now+1))/\i.cell? ⟨lb,2,none⟩=some (.int .i64 (s.now+2))) rfl ?_;refine fR 99 0 155 (.pointer (some ⟨gs,0,none⟩)) rfl rfl (λc a w h=>o _ _ c a w h) P.out ⟨by rfl,λi b=>by obtain⟨A,u,q⟩:=b;go_simp⟩ ?_;refine fR 99 2 157 (.agg #[ov,.int .i64 (s.now+1),.int .i64 (s.now+2)]) rfl rfl (λc a w h=>o _ _ c a w h) P.out ⟨by rfl,λi b=>by obtain⟨A,u,q⟩:=b;go_simp⟩ ?_;refine zUt 99 1 156 3 158 rfl rfl rfl rfl (by kernel_rfl) (by rfl) (by rfl) (f:=9) (args:=#[.pointer (some ⟨gs,0,none⟩)]) (vj:=.slice (some ⟨j.heap.size,0,none⟩) 1 1) (wj:=(j.alloc (.cells #[ov,.int .i64 (s.now+1),.int .i64 (s.now+2)] 46)).drew) (by go_simp) (by go_simp) I.out ?hA1 ?hA2
   case hA1=>
    refine(sB.out _ ((Mod.refl _ _).drew)).mono ?_;rintro e wt⟨v,us,rfl,K⟩;have G:=K.md;refine⟨_,rfl,⟨G.cell P.out.1 id,G.cell P.out.2.1 id,G.cell P.out.2.2 id⟩,?_⟩;have GP:Mod dt wt (wt.alloc (.cells #[ov,.int .i64 (s.now+1),.int .i64 (s.now+2)] 46)):=(Mod.refl _ _).alloc _;have S:=K.quiet GP;have Ai:dx (wt.alloc (.cells #[ov,.int .i64 (s.now+1),.int .i64 (s.now+2)] 46)) wt.heap.size [ov,.int .i64 (s.now+1),.int .i64 (s.now+2)] 46:=dx.new wt _ _;have Gg:=S.md;refine kJ 99 3 158 rfl rfl (by kernel_rfl) rfl (v:=.slice (some ⟨wt.heap.size,0,none⟩) 1 1) (w':=wt.alloc (.cells #[ov,.int .i64 (s.now+1),.int .i64 (s.now+2)] 46)) (by go_simp) ⟨Gg.cell P.out.1 id,Gg.cell P.out.2.1 id,Gg.cell P.out.2.2 id⟩ ?_;clear G Gg;have ud:=S.row;obtain⟨v9,N,uY,Tx,ru⟩:=yLf (t:=⟨ops,s.now+1,s.now+2⟩) ud Ai HOV.out Hv.out (aO K.md.size GP.size);obtain⟨sN,D⟩:=zZj HP.out VK.out.1 pX.out HTM.out yb.out ((Mod.refl _ _).drew) S Tx ru;have Ui:=dk sN;have C:Hid (N.cell? ⟨lb,0,none⟩=some ov/\N.cell? ⟨lb,1,none⟩=some (.int .i64 (s.now+1))/\N.cell? ⟨lb,2,none⟩=some (.int .i64 (s.now+2))):=⟨D.cell b0 id,D.cell b1 id,D.cell b2 id⟩;have Hu:=dk D;clear sN D Tx ru ud K S GP Ai;refine kJ 99 4 159 rfl rfl (by kernel_rfl) rfl (v:=v9) (w':=N) (yz (s:=.tmp 156) (x:=.tmp 158) (t:=29) rfl (by go_simp) (by go_simp) uY) C.out ?_;refine KY 99 5 160 rfl rfl (by kernel_rfl) (by rfl) (f:=8) (args:=#[v9]) (by go_simp) (Ui.out.mono ?_);rintro e J⟨r,rfl,E⟩;have n:Hid (J.cell? ⟨lb,0,none⟩=some ov/\J.cell? ⟨lb,1,none⟩=some (.int .i64 (s.now+1))/\J.cell? ⟨lb,2,none⟩=some (.int .i64 (s.now+2))):=⟨E.cell C.out.1 id,E.cell C.out.2.1 id,E.cell C.out.2.2 id⟩;have HMF:Hid (Mod dt W J):=QK.out.trans (Hu.out.trans E);clear E;refine⟨_,rfl,n.out,?_⟩;refine fR 99 6 154 (.tuple #[r,.bool true]) rfl rfl (λc a w h=>o _ _ c a w h) n.out ⟨by rfl,λi b=>by obtain⟨A,u,q⟩:=b;go_simp⟩ ?_;refine fR 99 7 161 (r) rfl rfl (λc a w h=>o _ _ c a w h) n.out ⟨by rfl,λi b=>by obtain⟨A,u,q⟩:=b;go_simp⟩ ?_;refine fR 99 8 162 (.bool true) rfl rfl (λc a w h=>o _ _ c a w h) n.out ⟨by rfl,λi b=>by obtain⟨A,u,q⟩:=b;go_simp⟩ ?_;refine fR 99 9 15 (r) rfl rfl (λc a w h=>o _ _ c a w h) n.out ⟨by rfl,λi b=>by obtain⟨A,u,q⟩:=b;go_simp⟩ ?_;refine fR 99 10 16 (.bool true) rfl rfl (λc a w h=>o _ _ c a w h) n.out ⟨by rfl,λi b=>by obtain⟨A,u,q⟩:=b;go_simp⟩ ?_;refine⟨by kernel_rfl,?_⟩;have X:=ti.out;subst X;have M:=kI.out;subst M;clear t5 t10 hsz o sB I C n uY Ui;go_wp2_with fail;go_ret;exact⟨rfl,HMF.out⟩
   case hA2=>
    refine KY 99 1 156 rfl rfl (by kernel_rfl) (by rfl) (f:=9) (args:=#[.pointer (some ⟨gs,0,none⟩)]) (by go_simp) ((sB.out _ Aw.out).mono ?_);rintro e wt⟨v,us,rfl,K⟩;have G:=K.md;refine⟨_,rfl,⟨G.cell I.out.1 id,G.cell I.out.2.1 id,G.cell I.out.2.2 id⟩,?_⟩;have GP:Mod dt wt wt:=Mod.refl _ _;have S:=K;have hbA:dx (j.alloc (.cells #[ov,.int .i64 (s.now+1),.int .i64 (s.now+2)] 46)).drew j.heap.size [ov,.int .i64 (s.now+1),.int .i64 (s.now+2)] 46:=dx.new j _ _;have Ai:=hbA.mod G id;clear G hbA;have ud:=S.row;obtain⟨v9,N,uY,Tx,ru⟩:=yLf (t:=⟨ops,s.now+1,s.now+2⟩) ud Ai HOV.out Hv.out (aO K.md.size GP.size);obtain⟨sN,D⟩:=zZj HP.out VK.out.1 pX.out HTM.out yb.out Aw.out S Tx ru;have Ui:=dk sN;have C:Hid (N.cell? ⟨lb,0,none⟩=some ov/\N.cell? ⟨lb,1,none⟩=some (.int .i64 (s.now+1))/\N.cell? ⟨lb,2,none⟩=some (.int .i64 (s.now+2))):=⟨D.cell b0 id,D.cell b1 id,D.cell b2 id⟩;have Hu:=dk D;clear sN D Tx ru ud K S GP Ai;refine kJ 99 4 159 rfl rfl (by kernel_rfl) rfl (v:=v9) (w':=N) (yz (s:=.tmp 156) (x:=.tmp 158) (t:=29) rfl (by go_simp) (by go_simp) uY) C.out ?_;refine KY 99 5 160 rfl rfl (by kernel_rfl) (by rfl) (f:=8) (args:=#[v9]) (by go_simp) (Ui.out.mono ?_);rintro e J⟨r,rfl,E⟩;have n:Hid (J.cell? ⟨lb,0,none⟩=some ov/\J.cell? ⟨lb,1,none⟩=some (.int .i64 (s.now+1))/\J.cell? ⟨lb,2,none⟩=some (.int .i64 (s.now+2))):=⟨E.cell C.out.1 id,E.cell C.out.2.1 id,E.cell C.out.2.2 id⟩;have HMF:Hid (Mod dt W J):=QK.out.trans (Hu.out.trans E);clear E;refine⟨_,rfl,n.out,?_⟩;refine fR 99 6 154 (.tuple #[r,.bool true]) rfl rfl (λc a w h=>o _ _ c a w h) n.out ⟨by rfl,λi b=>by obtain⟨A,u,q⟩:=b;go_simp⟩ ?_;refine fR 99 7 161 (r) rfl rfl (λc a w h=>o _ _ c a w h) n.out ⟨by rfl,λi b=>by obtain⟨A,u,q⟩:=b;go_simp⟩ ?_;refine fR 99 8 162 (.bool true) rfl rfl (λc a w h=>o _ _ c a w h) n.out ⟨by rfl,λi b=>by obtain⟨A,u,q⟩:=b;go_simp⟩ ?_;refine fR 99 9 15 (r) rfl rfl (λc a w h=>o _ _ c a w h) n.out ⟨by rfl,λi b=>by obtain⟨A,u,q⟩:=b;go_simp⟩ ?_;refine fR 99 10 16 (.bool true) rfl rfl (λc a w h=>o _ _ c a w h) n.out ⟨by rfl,λi b=>by obtain⟨A,u,q⟩:=b;go_simp⟩ ?_;refine⟨by kernel_rfl,?_⟩;have X:=ti.out;subst X;have M:=kI.out;subst M;clear t5 t10 hsz o sB I C n uY Ui;go_wp2_with fail;go_ret;exact⟨rfl,HMF.out⟩
