import Derived.Test.YtmaiggbnceejiaaGreatDoorS02
import Derived.Deep.CutBlock
import Derived.BigRegion
set_option linter.unusedVariables false
set_option maxRecDepth 100000
set_option maxHeartbeats 16000000
namespace Go.Proofs.YtmaiggbnceejiaaGreatDoor
open Go.RowKit Go.Lib Go.Maps
def rj(x:Int):List Int->Option Nat
 | []=>none
 | y :: ys=>if x=y then some 0 else (rj x ys).map (·+1)
theorem Tn(x:Int):∀ (l:List Int) (k:Nat),(∀ i y,i<k->l[i]?=some y->x≠y)->l[k]?=some x->rj x l=some k
 | [],_,_,h=>by simp at h
 | y :: ys,0,_,h=>by simp at h;subst h;simp [rj]
 | y :: ys,k+1,hf,h=>by
  have h0:=hf 0 y (by omega) rfl;have:=Tn x ys k (fun i z hi hz=>hf (i+1) z (by omega) (by simpa using hz)) (by simpa using h);simp [rj,h0,this]
theorem zUt(x:Int):∀ (l:List Int),(∀ (i:Nat) y,l[i]?=some y->x≠y)->rj x l=none
 | [],_=>rfl
 | y :: ys,h=>by
  have h0:=h 0 y rfl;simp [rj,h0,zUt x ys (fun i z hz=>h (i+1) z (by simpa using hz))]
theorem zUs(x:Int):∀ (l:List Int) (k:Nat),rj x l=some k->l[k]?=some x
 | [],_,h=>by simp [rj] at h
 | y :: ys,k,h=>by
  unfold rj at h;split at h
  ·rename_i e;simp at h;subst h;simp [e]
  ·cases hf:rj x ys with
   | none=>rw [hf] at h;simp at h
   | some j=>
    rw [hf] at h;simp at h;subst h;simpa using zUs x ys j hf
def NA(o:Option Nat):Int:=match o with | none=>-1 | some k=>k
structure eK where
 id:Int
 dk:Int
 nodes:List Int
 log:List dv
 gz:Int
def sS(s:eK):Int:=NA (rj s.id s.nodes)
theorem zSa(s:eK):sS s = -1\/∃ k:Nat,sS s=k/\s.nodes[k]?=some s.id/\k<s.nodes.length:=by
 unfold sS
 cases h:rj s.id s.nodes with
 | none=>exact .inl rfl
 | some k=>
  have hk:=zUs _ _ _ h;exact .inr ⟨k,rfl,hk,(aB.1 hk).1⟩
def oR(s:eK):Bool:=decide (0<=sS s)
def mW(s:eK):Bool:=sS s == 0
def vy(s:eK):Bool:=oR s && (sS s == (s.nodes.length:Int) - 1)
def iE(s:eK)(wh:Int):Option Int:=if oR s && (decide (0<=sS s+wh) && decide (sS s+wh<(s.nodes.length:Int))) then s.nodes[(sS s+wh).toNat]? else none
def jA(w:World)(v:Value)(ns:List Int):Prop:=
 ∃ a cap,v=.slice a ns.length cap/\ns.length<=cap/\cap<=maxLen/\(ns=[]\/∃ b off,a=some ⟨b,off,none⟩/\∀ (j:Nat) x,ns[j]?=some x->w.cell? ⟨b,off+j,none⟩=some (.int .i64 x))
theorem jA.drewN{w:World}{v:Value}{ns:List Int}(h:jA w v ns)(n:Nat):jA (w.drewN n) v ns:=h
theorem jA.iA{w:World}{B:Nat}{v:Value}{ns:List Int}(h:w.ownsRow B 3 1 v ns.length (ns.map (Value.int .i64))):jA w v ns:=by
 rcases h.2 with ⟨e,h0⟩ | ⟨g,cap,cur,e,_,hg,hc1,hc2,_⟩
 ·have:ns=[]:=aR h0;subst this;exact ⟨none,0,e,aF _,aT _,.inl rfl⟩
 ·refine ⟨_,cap,e,hc1,hc2,.inr ⟨g,0,rfl,fun j x hx=>?_⟩⟩;subst e;have hc:=h.cells (g:=g) rfl j (.int .i64 x) (by simp [hx]);rw [Go.WideShapes.add_plain] at hc;exact hc
theorem zXg(v:Value)(ns:List Int)(x:Int)(w:World)(hv:jA w v ns) :
  Calls Tryz.prog 122 #[v,.int .i64 x] w fun e w'=>e=.returned (.int .i64 (NA (rj x ns)))/\w'=w:=by
 obtain ⟨a,cap,rfl,hc1,hc2,hcl⟩:=hv;unfold maxLen at hc2;have rJ:=dq hcl;clear hcl;go_enter Tryz.func122,Tryz.ntmps122;go_wp2_with fail;go_loopw [8] (fun i wr=>∃ k:Nat,k<=ns.length/\i=.int .i64 k/\(∀ i y,i<k->ns[i]?=some y->x≠y)/\wr=w) (fun i _=>ns.length - (intOf i).toNat)
 case atStart=>exact ⟨0,aT _,rfl,fun i y h=>by omega,rfl⟩
 case round=>
  obtain ⟨k,hk,rfl,hno,rfl⟩:=hrel;have kS:=dq hno;clear hno;by_cases hlt:k<ns.length
  ·obtain ⟨y,hy⟩:∃ y,ns[k]?=some y:=⟨_,aA hlt⟩;rcases rJ.out with e | ⟨b,off,rfl,hcl⟩
   ·rw [e] at hlt;simp at hlt
   have q0:=hcl k y hy;have HY:=dq hy;have jd:(k:Int)<(ns.length:Int):=by omega
   have lJ:(0:Int)<=(k:Int):=by omega
   clear hcl hy;by_cases hxy:x=y
   ·subst hxy;have HF:Hid (rj x ns=some k):=Tn x ns k kS.out HY.out;go_wp2_with fail;go_ret;exact ⟨by rw [HF.out];rfl,rfl⟩
   ·have hne:(x == y)=false:=by simpa using hxy
    go_wp2_with fail;go_roundw
    case rel=>
     refine ⟨k+1,by omega,by go_num,fun i z hi hz=>?_,by trivial⟩;by_cases e:i=k
     ·subst e;have h2:=HY.out;rw [h2] at hz;cases hz;exact hxy
     ·exact kS.out i z (by omega) hz
    case measure=>simp [intOf];omega
  ·obtain rfl:k=ns.length:=by omega
   have HF:Hid (rj x ns=none):=zUt x ns (fun i y hi=>kS.out i y ((aB.1 hi).1) hi);go_wp2_with fail;go_ret;exact ⟨by rw [HF.out];rfl,rfl⟩
def CY(c:dv):Prop:=FC c/\c.writes.length<=40
def gZ(w:World)(L:Lo)(v:Value)(cs:List dv):Prop:=
 ∃ us:List Value,us.length=cs.length/\w.ownsRow L 65 4 v cs.length (zW cs us)/\(∀ (i:Nat) c u,cs[i]?=some c->us[i]?=some u->iH w L u c.writes)/\∀ c∈cs,CY c
theorem gZ.nil(w:World)(L:Lo):gZ w L (.slice none 0 0) []:=⟨[],rfl,World.ownsRow_nil _ _ _ _,fun i m u h=>by simp at h,by simp⟩
theorem gZ.mod{G:Nat->Prop}{w w':World}{L:Lo}{v:Value}{cs:List dv}(h:gZ w L v cs)(hm:Mod G w w')(hq:Qm w L G)(hG:∀ k,v.ownBlock=some k->¬ G k):gZ w' L v cs:=by
 obtain ⟨us,h1,h2,h3,h4⟩:=h;exact ⟨us,h1,fm h2 hm (fun k _ _ e=>hG k e),fun i m u hi hu=>(h3 i m u hi hu).mod hm hq,h4⟩
theorem gZ.slice{w:World}{L:Lo}{v:Value}{cs:List dv}(h:gZ w L v cs):∃ a cap,v=.slice a cs.length cap:=by
 obtain ⟨us,_,h2,_⟩:=h;exact eu h2
theorem Rj:∀ (cs:List dv) (us:List Value) (i:Nat) (c:dv) (u:Value),us.length=cs.length->cs[i]?=some c->us[i]?=some u->∀ j x,(wD c u)[j]?=some x->(zW cs us)[i*4+j]?=some x
 | [],_,_,_,_,_,h,_,_,_,_=>by simp at h
 | _ :: _,[],_,_,_,h,_,_,_,_,_=>by simp at h
 | c' :: cs,u' :: us,0,c,u,_,h,h',j,x,hx=>by
  simp at h h';subst h h';have hj:j<(wD c' u').length:=(aB.1 hx).1;rw [cg,aX,zW,aE hj];exact hx
 | c' :: cs,u' :: us,i+1,c,u,hl,h,h',j,x,hx=>by
  have:=Rj cs us i c u (by simpa using hl) (by simpa using h) (by simpa using h') j x hx;have e:(i+1)*4+j=(wD c' u').length+(i*4+j):=by simp [wD];omega
  rw [e,zW,aM (by omega),Nat.add_sub_cancel_left];exact this
theorem gZ.at{w:World}{L:Lo}{v:Value}{cs:List dv}(h:gZ w L v cs){i:Nat}{c:dv}(hi:cs[i]?=some c) :
  ∃ g cap u,v=.slice (some ⟨g,0,none⟩) cs.length cap/\cs.length<=cap/\cap<=maxLen/\iH w L u c.writes/\CY c /\
   w.cell? ⟨g,i*4,none⟩=some (.int .i64 c.kind)/\w.cell? ⟨g,i*4+1,none⟩=some (.int .i64 c.tx)/\w.cell? ⟨g,i*4+2,none⟩=some (.int .i64 c.time)/\w.cell? ⟨g,i*4+3,none⟩=some u:=by
 obtain ⟨us,h1,h2,h3,h4⟩:=h;have hlt:i<cs.length:=(aB.1 hi).1;obtain ⟨u,hu⟩:∃ u,us[i]?=some u:=⟨_,aA (by omega)⟩;rcases h2.2 with ⟨_,h0⟩ | ⟨g,cap,cur,rfl,_,hg,hc1,hc2,_,_⟩
 ·omega
 ·have hc:=h2.cells (g:=g) rfl;have vd:∀ j,(⟨g,0,none⟩:Addr).add j=⟨g,j,none⟩:=fun j=>by rw [Go.WideShapes.add_plain,aX]
  have key:∀ j x,(wD c u)[j]?=some x->w.cell? ⟨g,i*4+j,none⟩=some x:=fun j x hx=>by
   have:=hc _ _ (Rj cs us i c u h1 hi hu j x hx);rw [vd] at this;exact this
  exact ⟨g,cap,u,rfl,hc1,hc2,h3 i c u hi hu,h4 c (aC hi),key 0 _ rfl,key 1 _ rfl,key 2 _ rfl,key 3 _ rfl⟩
theorem fW{w:World}{B:Nat}{v:Value}{e:TypeId}{sz n:Nat}{xs:List Value}(ho:w.ownsRow B e sz v n xs){k:Nat}(hk:v.ownBlock=some k):B<=k/\k<w.heap.size/\∃ cur,w.heap[k]?=some (.cells cur e (0,0)):=by
 rcases ho.2 with ⟨e',_⟩ | ⟨g',cap,cur,e',hb,hg,_⟩
 ·rw [e'] at hk;simp [Value.ownBlock] at hk
 ·rw [e'] at hk;simp [Value.ownBlock] at hk;subst hk;exact ⟨hb,(aG.1 hg).1,cur,hg⟩
structure fe(w:World)(L:Lo)(g:Nat)(nv lv:Value)(s:eK):Prop where
 blk:dg w g [.int .i64 s.id,.int .i64 s.dk,nv,lv,.int .i64 s.gz] 132
 low:L<=g
 ns:w.ownsRow L 3 1 nv s.nodes.length (s.nodes.map (Value.int .i64))
 lg:gZ w L lv s.log
 ints:gO s.id/\gO s.dk/\∀ x∈s.nodes,gO x
 few:s.nodes.length<=1000000/\s.log.length<=500
 st:0<=s.gz/\s.gz<=s.log.length
 xb:∀ k,L.x k->k<w.heap.size
def gw(g:Nat)(nv lv:Value)(k:Nat):Prop:=k=g\/nv.ownBlock=some k\/lv.ownBlock=some k
theorem fe.lt{w:World}{L:Lo}{g:Nat}{nv lv:Value}{s:eK}(h:fe w L g nv lv s){k:Nat}(hk:gw g nv lv k):L<=k/\k<w.heap.size/\¬ St w L k:=by
 rcases hk with rfl | hk | hk
 ·refine ⟨h.low,h.blk.lt,?_⟩;rintro (e | ⟨⟨cur,fr,e⟩,_⟩)
  ·have:=h.low;omega
  ·have:=h.blk;simp only [dg] at this;rw [this] at e;simp at e
 ·obtain ⟨h1,h2,_⟩:=fW h.ns hk;exact ⟨h1,h2,Qm.row h.ns (aF _) (by decide) k h2 hk⟩
 ·obtain ⟨us,_,h2,_⟩:=h.lg;obtain ⟨h3,h4,_⟩:=fW h2 hk;exact ⟨h3,h4,Qm.row h2 (aF _) (by decide) k h4 hk⟩
theorem fe.qm{w:World}{L:Lo}{g:Nat}{nv lv:Value}{s:eK}(h:fe w L g nv lv s):Qm w L (gw g nv lv):=fun _ _ hk=>(h.lt hk).2.2
theorem Qm.wM{w:World}{L:Lo}{g:Nat}{nv lv:Value}{s:eK}(h:fe w L g nv lv s){G:Nat->Prop}(hG:∀ k,k<w.heap.size->G k->gw g nv lv k):Qm w L G:=fun k hk hg=>(h.lt (hG k hk hg)).2.2
theorem fe.mod{G:Nat->Prop}{w w':World}{L:Lo}{g:Nat}{nv lv:Value}{s:eK}(h:fe w L g nv lv s)(hm:Mod G w w')(hq:Qm w L G)(hG:∀ k,gw g nv lv k->¬ G k):fe w' L g nv lv s:=
 ⟨h.blk.mod hm (hG g (.inl rfl)),h.low,fm h.ns hm (fun k _ _ e=>hG k (.inr (.inl e))),h.lg.mod hm hq (fun k hk=>hG k (.inr (.inr hk))),h.ints,h.few,h.st,fun k hk=>aH (h.xb k hk) hm.size⟩
theorem fe.quiet{w w':World}{L:Lo}{g:Nat}{nv lv:Value}{s:eK}(h:fe w L g nv lv s)(hm:Mod dZ w w'):fe w' L g nv lv s:=h.mod hm (Qm.none _ _) (fun _ _=>id)
theorem fe.drewN{w:World}{L:Lo}{g:Nat}{nv lv:Value}{s:eK}(h:fe w L g nv lv s)(n:Nat):fe (w.drewN n) L g nv lv s:=h.quiet ((Mod.refl _ w).drewN n)
theorem fe.apart{w:World}{L:Lo}{g:Nat}{nv lv:Value}{s:eK}(h:fe w L g nv lv s):nv.ownBlock≠some g/\lv.ownBlock≠some g/\∀ k,nv.ownBlock=some k->lv.ownBlock≠some k:=by
 have hb:=h.blk;simp only [dg] at hb;obtain ⟨us,_,h2,_⟩:=h.lg;refine ⟨fun e=>?_,fun e=>?_,fun k e e'=>?_⟩
 ·obtain ⟨_,_,cur,hc⟩:=fW h.ns e;rw [hb] at hc;simp at hc
 ·obtain ⟨_,_,cur,hc⟩:=fW h2 e;rw [hb] at hc;simp at hc
 ·obtain ⟨_,_,cur,hc⟩:=fW h.ns e;obtain ⟨_,_,cur',hc'⟩:=fW h2 e';rw [hc] at hc';simp at hc'
theorem mQ{w:World}{g:Nat}{a0 a1 a2 a3 a4:Value}{t:TypeId}(h:dg w g [a0,a1,a2,a3,a4] t) :
  w.cell? ⟨g,0,none⟩=some a0/\w.cell? ⟨g,1,none⟩=some a1/\w.cell? ⟨g,2,none⟩=some a2/\w.cell? ⟨g,3,none⟩=some a3/\w.cell? ⟨g,4,none⟩=some a4:=
 ⟨h.cell 0 rfl,h.cell 1 rfl,h.cell 2 rfl,h.cell 3 rfl,h.cell 4 rfl⟩
theorem MN(L:Lo)(g:Nat)(nv lv:Value)(s:eK)(w:World)(h:fe w L g nv lv s) :
  Calls Tryz.prog 137 #[.pointer (some ⟨g,0,none⟩)] w fun e w'=>e=.returned (.int .i64 (sS s))/\∃ m,w'=w.drewN m:=by
 obtain ⟨c0,c1,c2,c3,c4⟩:=mQ h.blk;have HI:=dq (jA.iA h.ns);clear h;go_enter Tryz.func137,Tryz.ntmps137;go_wp2_with fail;go_quiet (first
  | (go_at_call 122;refine Calls.quiet_of_same (zXg _ _ _ _ (HI.out.drewN _)))
  | fail)
 go_wp2_with fail;go_ret;exact ⟨rfl,_,rfl⟩
theorem Ml(L:Lo)(g:Nat)(nv lv:Value)(s:eK)(w:World)(h:fe w L g nv lv s) :
  Calls Tryz.prog 136 #[.pointer (some ⟨g,0,none⟩)] w fun e w'=>e=.returned (.bool (oR s))/\∃ m,w'=w.drewN m:=by
 have HP:=dq (MN L g nv lv s w h);clear h;go_enter Tryz.func136,Tryz.ntmps136;go_wp2_with fail;refine HP.out.mono ?_;rintro e w1 ⟨rfl,m,rfl⟩;go_wp2_with fail;go_ret;exact ⟨rfl,m,rfl⟩
theorem ySt(L:Lo)(g:Nat)(nv lv:Value)(s:eK)(w:World)(h:fe w L g nv lv s) :
  Calls Tryz.prog 128 #[.pointer (some ⟨g,0,none⟩)] w fun e w'=>e=.returned (.bool (mW s))/\∃ m,w'=w.drewN m:=by
 have HP:=dq (MN L g nv lv s w h);clear h;go_enter Tryz.func128,Tryz.ntmps128;go_wp2_with fail;refine HP.out.mono ?_;rintro e w1 ⟨rfl,m,rfl⟩;go_wp2_with fail;go_ret;exact ⟨rfl,m,rfl⟩
theorem yHe(L:Lo)(g:Nat)(nv lv:Value)(s:eK)(w:World)(h:fe w L g nv lv s) :
  Calls Tryz.prog 104 #[.pointer (some ⟨g,0,none⟩)] w fun e w'=>e=.returned (.bool (vy s))/\∃ m,w'=w.drewN m:=by
 obtain ⟨na,pr,pC⟩:=eu h.ns;subst pC;obtain ⟨c0,c1,c2,c3,c4⟩:=mQ h.blk;have hf:=h.few.1;have HN:=dq h;clear h;go_enter Tryz.func104,Tryz.ntmps104;go_wp2_with fail
 cases hin:oR s with
 | true=>
  have mY:Hid (∀ n,Calls Tryz.prog 136 #[.pointer (some ⟨g,0,none⟩)] (w.drewN n) fun e w'=>e=.returned (.bool true)/\∃ m,w'=(w.drewN n).drewN m):=fun n=>by have:=Ml _ _ _ _ _ _ (HN.out.drewN n);rw [hin] at this;exact this
  have HT:Hid (vy s=(sS s == (s.nodes.length:Int) - 1)):=by rw [Hid,vy,hin];rfl
  go_quiet (first
   | (go_at_call 136;refine Calls.quiet_of (mY.out _))
   | (go_at_call 137;refine Calls.quiet_of (MN _ _ _ _ _ _ (HN.out.drewN _)))
   | fail)
  go_wp2_with fail;go_ret;exact ⟨by rw [HT.out];rfl,_,rfl⟩
 | false=>
  have mY:Hid (∀ n,Calls Tryz.prog 136 #[.pointer (some ⟨g,0,none⟩)] (w.drewN n) fun e w'=>e=.returned (.bool false)/\∃ m,w'=(w.drewN n).drewN m):=fun n=>by have:=Ml _ _ _ _ _ _ (HN.out.drewN n);rw [hin] at this;exact this
  have HT:Hid (vy s=false):=by rw [Hid,vy,hin];rfl
  go_quiet (first
   | (go_at_call 136;refine Calls.quiet_of (mY.out _))
   | (go_at_call 137;refine Calls.quiet_of (MN _ _ _ _ _ _ (HN.out.drewN _)))
   | fail)
  go_wp2_with fail;go_ret;exact ⟨by rw [HT.out];rfl,_,rfl⟩
theorem zPo(L:Lo)(g:Nat)(nv lv:Value)(s:eK)(wh:Int)(w:World)(h:fe w L g nv lv s)(uN:wh=1\/wh = -1) :
  Calls Tryz.prog 135 #[.pointer (some ⟨g,0,none⟩),.int .i64 wh] w fun e w'=>e=.returned (.tuple #[.int .i64 ((iE s wh).getD 0),.bool (iE s wh).isSome])/\∃ m,w'=w.drewN m:=by
 obtain ⟨na,pr,pC⟩:=eu h.ns;subst pC;obtain ⟨c0,c1,c2,c3,c4⟩:=mQ h.blk;have hf:=h.few.1;have HN:=dq h;have HI:=dq (jA.iA h.ns);have hgl:=h.blk.lt;have HP:=dq (MN L g _ lv s w h);clear h;have hpc:=zSa s;obtain ⟨p,hp⟩:∃ q,q=sS s:=⟨_,rfl⟩;have HPP:=dq hp;rw [<-hp] at HP hpc;have hpb:-1<=p/\p<1000001:=by
  rcases hpc with e | ⟨k,e,_,e2⟩ <;> omega
 clear hp;go_enter Tryz.func135,Tryz.ntmps135;go_wp2_with fail;refine HP.out.mono ?_;rintro e w1 ⟨rfl,m1,rfl⟩;have mY:=dq (Ml L g _ lv s (w.drewN m1) (HN.out.drewN m1));have Xt:g<(w.drewN m1).heap.size:=hgl;have IX:oR s=decide (0<=p):=by rw [oR,<-HPP.out]
 rw [IX] at mY;by_cases h0:0<=p
 ·have hd0:decide (0<=p)=true:=aQ h0;rw [hd0] at mY;have HB:Hid (iE s wh=if decide (0<=p+wh) && decide (p+wh<(s.nodes.length:Int)) then s.nodes[(p+wh).toNat]? else none):=by
   rw [Hid,iE,IX,hd0,<-HPP.out,Bool.true_and]
  by_cases h1:0<=p+wh
  ·by_cases h2:p+wh<(s.nodes.length:Int)
   ·obtain ⟨kk,hkk⟩:∃ kk:Nat,p+wh=kk:=⟨(p+wh).toNat,by omega⟩;rw [hkk] at HB h1 h2;obtain ⟨y,hy⟩:∃ y,s.nodes[kk]?=some y:=⟨_,aA (by omega)⟩;have lX:Hid (iE s wh=some y):=by
     rw [Hid,HB.out,aQ h1,aQ h2];simpa using hy
    obtain ⟨a',cap',ha',hc1,hc2,hcl⟩:=HI.out;simp only [Value.slice.injEq] at ha';obtain ⟨rfl,_,rfl⟩:=ha';rcases hcl with e | ⟨b,off,rfl,hcl⟩
    ·rw [e] at hy;simp at hy
    have q0:=hcl kk y hy;have hd1:decide ((kk:Int)<0)=false:=aL (by omega);have hd2:decide ((kk:Int) ≥ (s.nodes.length:Int))=false:=aL (by omega);have hd3:decide ((s.nodes.length:Int)<=(kk:Int))=false:=aL (by omega);have hwr:IntKind.i64.wrap (p+wh)=(kk:Int):=by rw [IntKind.wrap_i64];omega
    have NU:wrap64 (p+wh)=(kk:Int):=by rw [hkk];unfold wrap64;omega
    clear hcl hy HB HP HN;go_wp2_with fail;refine mY.out.mono ?_;rintro e w2 ⟨rfl,m2,rfl⟩;go_wp2_with fail;refine bodyPost_ret (results_tmp2 rfl _ _ _) rfl ⟨?_,m1+m2,rfl⟩;rw [lX.out];rfl
   ·have lX:Hid (iE s wh=none):=by
     rw [Hid,HB.out,aL h2,Bool.and_false];rfl
    obtain ⟨kk,hkk⟩:∃ kk:Nat,p+wh=kk:=⟨(p+wh).toNat,by omega⟩;rw [hkk] at h1 h2;have hd1:decide ((kk:Int)<0)=false:=aL (by omega);have hd2:decide ((kk:Int) ≥ (s.nodes.length:Int))=true:=aQ (by omega);have hd3:decide ((s.nodes.length:Int)<=(kk:Int))=true:=aQ (by omega);have NU:wrap64 (p+wh)=(kk:Int):=by rw [hkk];unfold wrap64;omega
    clear HB HP HN;go_wp2_with fail;refine mY.out.mono ?_;rintro e w2 ⟨rfl,m2,rfl⟩;go_wp2_with fail;refine bodyPost_ret (results_tmp2 rfl _ _ _) rfl ⟨?_,m1+m2,rfl⟩;rw [lX.out];rfl
  ·have lX:Hid (iE s wh=none):=by
    rw [Hid,HB.out,aL h1,Bool.false_and];rfl
   have hd1:decide (p+wh<0)=true:=aQ (by omega);have NU:wrap64 (p+wh)=p+wh:=by unfold wrap64;omega
   clear HB HP HN;go_wp2_with fail;refine mY.out.mono ?_;rintro e w2 ⟨rfl,m2,rfl⟩;go_wp2_with fail;refine bodyPost_ret (results_tmp2 rfl _ _ _) rfl ⟨?_,m1+m2,rfl⟩;rw [lX.out];rfl
 ·have hd0:decide (0<=p)=false:=aL h0;rw [hd0] at mY;have lX:Hid (iE s wh=none):=by
   rw [Hid,iE,IX,hd0,Bool.false_and];rfl
  clear HP HN;go_wp2_with fail;refine mY.out.mono ?_;rintro e w2 ⟨rfl,m2,rfl⟩;go_wp2_with fail;refine bodyPost_ret (results_tmp2 rfl _ _ _) rfl ⟨?_,m1+m2,rfl⟩;rw [lX.out];rfl
def nk(s:eK)(wh x:Int):Bool:=match iE s wh with
 | none=>false
 | some y=>y == x
theorem Bf(L:Lo)(g:Nat)(nv lv:Value)(s:eK)(wh x:Int)(w:World)(h:fe w L g nv lv s)(uN:wh=1\/wh = -1) :
  Calls Tryz.prog 99 #[.pointer (some ⟨g,0,none⟩),.int .i64 wh,.int .i64 x] w fun e w'=>e=.returned (.bool (nk s wh x))/\∃ m,w'=w.drewN m:=by
 have HP:=dq (zPo L g nv lv s wh w h uN);clear h uN;go_enter Tryz.func99,Tryz.ntmps99
 cases hn:iE s wh with
 | none=>
  rw [hn] at HP;have HB:Hid (nk s wh x=false):=by rw [Hid,nk,hn]
  go_wp2_with fail;refine HP.out.mono ?_;rintro e w1 ⟨rfl,m1,rfl⟩;simp only [Option.getD_none,Option.isSome_none];go_wp2_with fail;go_ret;exact ⟨by rw [HB.out];rfl,m1,rfl⟩
 | some y=>
  rw [hn] at HP;have HB:Hid (nk s wh x=(y == x)):=by rw [Hid,nk,hn]
  go_wp2_with fail;refine HP.out.mono ?_;rintro e w1 ⟨rfl,m1,rfl⟩;simp only [dL,Option.isSome_some];go_wp2_with fail;go_ret;exact ⟨by rw [HB.out];rfl,m1,rfl⟩
theorem RC(L:Lo)(g:Nat)(nv lv:Value)(s:eK)(w:World)(h:fe w L g nv lv s) :
  Calls Tryz.prog 102 #[.pointer (some ⟨g,0,none⟩)] w fun e w'=>e=.returned (.bool (decide (s.log.length<500)))/\w'=w:=by
 obtain ⟨la,ey,hlv⟩:=h.lg.slice;subst hlv;obtain ⟨c0,c1,c2,c3,c4⟩:=mQ h.blk;have hf:=h.few.2;have hd:decide ((s.log.length:Int)<500)=decide (s.log.length<500):=decide_eq_decide.2 (by omega);clear h;go_enter Tryz.func102,Tryz.ntmps102;go_wp2_with fail;go_ret;exact ⟨rfl,rfl⟩
theorem Vn(L:Lo)(g:Nat)(nv lv:Value)(s:eK)(w:World)(h:fe w L g nv lv s) :
  Calls Tryz.prog 79 #[.pointer (some ⟨g,0,none⟩)] w fun e w'=>e=.returned (.int .i64 s.log.length)/\w'=w:=by
 obtain ⟨la,ey,hlv⟩:=h.lg.slice;subst hlv;obtain ⟨c0,c1,c2,c3,c4⟩:=mQ h.blk;clear h;go_enter Tryz.func79,Tryz.ntmps79;go_wp2_with fail;go_ret;exact ⟨rfl,rfl⟩
theorem VX(L:Lo)(g:Nat)(nv lv:Value)(s:eK)(w:World)(h:fe w L g nv lv s) :
  Calls Tryz.prog 98 #[.pointer (some ⟨g,0,none⟩)] w fun e w'=>e=.returned (.int .i64 s.id)/\w'=w:=by
 obtain ⟨c0,c1,c2,c3,c4⟩:=mQ h.blk;clear h;go_enter Tryz.func98,Tryz.ntmps98;go_wp2_with fail;go_ret;exact ⟨rfl,rfl⟩
theorem yLh(L:Lo)(g:Nat)(nv lv:Value)(s:eK)(w:World)(h:fe w L g nv lv s) :
  Calls Tryz.prog 106 #[.pointer (some ⟨g,0,none⟩)] w fun e w'=>e=.returned (.int .i64 s.dk)/\w'=w:=by
 obtain ⟨c0,c1,c2,c3,c4⟩:=mQ h.blk;clear h;go_enter Tryz.func106,Tryz.ntmps106;go_wp2_with fail;go_ret;exact ⟨rfl,rfl⟩
theorem yTo(L:Lo)(id:Int)(w:World)(hid:gO id)(hL:L.n<=w.heap.size)(hx:∀ k,L.x k->k<w.heap.size) :
  Calls Tryz.prog 87 #[.int .i64 id] w fun e w'=>e=.returned (.pointer (some ⟨w.heap.size,0,none⟩))/\fe w' L w.heap.size (.slice none 0 0) (.slice none 0 0) ⟨id,0,[],[],0⟩/\Mod dZ w w':=by
 go_enter Tryz.func87,Tryz.ntmps87;go_wp2_with fail;go_ret;exact ⟨rfl,⟨dg.new w _ _,hL,World.ownsRow_nil _ _ _ _,gZ.nil _ _,⟨hid,by simp [gO],by simp⟩,by simp,by simp,fun k hk=>by have:=hx k hk;rw [World.size_alloc];omega⟩,(Mod.refl _ w).alloc _⟩
def xe(w:World)(N:Nat)(u0 u1 u2 u3:Value):World:=(((w.setCell ⟨N,0,none⟩ u0).setCell ⟨N,1,none⟩ u1).setCell ⟨N,2,none⟩ u2).setCell ⟨N,3,none⟩ u3
theorem yRo{w:World}{N:Nat}{a0 a1 a2 a3:Value}{t:TypeId}(hB:dg w N [a0,a1,a2,a3] t)(u0 u1 u2 u3:Value):dg (xe w N u0 u1 u2 u3) N [u0,u1,u2,u3] t:=(((hB.set 0 _).set 1 _).set 2 _).set 3 _
theorem UB(w:World)(N:Nat)(u0 u1 u2 u3:Value):Mod (eA N) w (xe w N u0 u1 u2 u3):=(((Mod.dt N 0 u0).trans (Mod.dt N 1 u1)).trans (Mod.dt N 2 u2)).trans (Mod.dt N 3 u3)
theorem Ck{w:World}{N:Nat}{a0 a1 a2 a3:Value}{t:TypeId}(hB:dg w N [a0,a1,a2,a3] t)(u0 u1 u2 u3:Value):(loadVar 65 ⟨N,0,none⟩).run Tryz.prog (xe w N u0 u1 u2 u3)=.ok (.agg #[u0,u1,u2,u3]) (xe w N u0 u1 u2 u3):=yHu (yRo hB u0 u1 u2 u3)
theorem TS(L:Lo)(c:dv)(u:Value)(w:World)(hu:iH w L u c.writes)(hl:c.writes.length<=1000000) :
  Calls Tryz.prog 72 #[.agg #[.int .i64 c.kind,.int .i64 c.tx,.int .i64 c.time,u]] w fun e w'=>
   ∃ u',e=.returned (.agg #[.int .i64 c.kind,.int .i64 c.tx,.int .i64 c.time,u'])/\w'.ownsRow w.heap.size 68 3 u' c.writes.length (c.writes.flatMap oE)/\Mod dZ w w':=by
 obtain ⟨i0,hi,hz0,hz1,hz2⟩:=info_parts Tryz.AD;have hu0:=hu;obtain ⟨a,cap,rfl,hpc,hcm,_⟩:=hu0;go_enter Tryz.func72,Tryz.ntmps72;by_cases h0:c.writes=[]
 ·have h00:c.writes.length=0:=by rw [h0];rfl
  rw [h00];have HF:Hid (c.writes.flatMap oE=[]):=by rw [Hid,h0];rfl
  go_wp2_with (first
   | (at_builtin;refine zHz rfl _ _ rfl rfl _ _ rfl ?_)
   | fail)
  have hb:dg ((w.alloc (.cells #[.int .i64 c.kind,.int .i64 c.tx,.int .i64 c.time,.slice none 0 0] 65)).alloc (.cells #[.int .i64 c.kind,.int .i64 c.tx,.int .i64 c.time,.slice none 0 0] 65)) (w.heap.size+1) [.int .i64 c.kind,.int .i64 c.tx,.int .i64 c.time,.slice none 0 0] 65:=by
   have:=dg.new (w.alloc (.cells #[.int .i64 c.kind,.int .i64 c.tx,.int .i64 c.time,.slice none 0 0] 65)) [.int .i64 c.kind,.int .i64 c.tx,.int .i64 c.time,.slice none 0 0] 65;rw [World.size_alloc] at this;exact this
  refine bodyPost_ret (Qy Tryz.results72 _ ⟨w.heap.size+1,0,none⟩ rfl (yHu hb)) rfl ⟨.slice none 0 0,rfl,?_,((Mod.refl _ w).alloc _).alloc _⟩;rw [HF.out];exact World.ownsRow_nil _ _ _ _
 ·obtain ⟨b,off,rfl,hcl⟩:=hu.cells h0;have lP:Mod dZ w ((w.alloc (.cells #[.int .i64 c.kind,.int .i64 c.tx,.int .i64 c.time,.slice (some ⟨b,off,none⟩) c.writes.length cap] 65)).alloc (.cells #[.int .i64 0,.int .i64 0,.int .i64 0,.slice none 0 0] 65)):=((Mod.refl _ w).alloc _).alloc _;have rJ:Hid (∀ (j:Nat) u,(c.writes.flatMap oE)[j]?=some u->((w.alloc (.cells #[.int .i64 c.kind,.int .i64 c.tx,.int .i64 c.time,.slice (some ⟨b,off,none⟩) c.writes.length cap] 65)).alloc (.cells #[.int .i64 0,.int .i64 0,.int .i64 0,.slice none 0 0] 65)).cell? ((⟨b,off,none⟩:Addr).add j)=some u):=fun j u IU=>lP.cell (hcl j u IU) id;have uV:=dq (Uy c.writes);have qM:=dq (zPk c.writes);have iJ:0+c.writes.length<=maxLen:=by unfold maxLen;omega
  have iK:(0+c.writes.length)*40<=140737488355328:=by omega
  clear hcl hu;go_wp2_with (first
   | (at_builtin;refine wpList_append_own _ rfl _ _ 63 rfl (w.heap.size+1+1) 68 i0 _ 3 40 Tryz.underlying63 hi hz0 hz1 hz2 rfl (by omega) _ _ _ rfl (World.ownsRow_nil _ _ _ _) ⟨b,off,none⟩ _ _ (c.writes.flatMap oE) rfl uV.out rJ.out qM.out iJ iK (by simp) ?_)
   | fail)
  intro v' w1 hown1 hgrow _;have dh:=(Mod.refl dZ _).grown hgrow (fun x hx _=>by simp [Value.ownBlock] at hx);have ff:=((dg.new w [.int .i64 c.kind,.int .i64 c.tx,.int .i64 c.time,.slice (some ⟨b,off,none⟩) c.writes.length cap] 65).mod ((Mod.refl dZ _).alloc (.cells #[.int .i64 0,.int .i64 0,.int .i64 0,.slice none 0 0] 65)) id).mod dh id;have gp:=(dg.new (w.alloc (.cells #[.int .i64 c.kind,.int .i64 c.tx,.int .i64 c.time,.slice (some ⟨b,off,none⟩) c.writes.length cap] 65)) [.int .i64 0,.int .i64 0,.int .i64 0,.slice none 0 0] 65).mod dh id;rw [World.size_alloc] at gp;have nT:=lP.trans dh;obtain ⟨x0,x1,x2,x3,y0,y1,y2,y3⟩:=td ff;obtain ⟨p0,p1,p2,p3,q0,q1,q2,q3⟩:=td gp;obtain ⟨va,vc,rfl⟩:=eu hown1;have HO:=dq hown1;clear hown1 hgrow dh rJ uV qM lP;go_wp2_with fail;have hB2':=gp.mod (Mod.dt (w:=w1) w.heap.size 3 (.slice va c.writes.length vc)) (by simp [eA]);have Yd:w1.ownsRow (w.heap.size+1+1) 68 3 (.slice va c.writes.length vc) c.writes.length (c.writes.flatMap oE):=by simpa using HO.out
  refine bodyPost_ret (Qy Tryz.results72 _ ⟨w.heap.size+1,0,none⟩ rfl (Ck hB2' _ _ _ _)) rfl ⟨.slice va c.writes.length vc,rfl,?_,?_⟩
  ·refine uL (fm (G:=eA (w.heap.size+1)) (fm (G:=eA w.heap.size) Yd (Mod.dt _ 3 _) (fun k hk _ _ e=>by simp only [eA] at e;omega)) (UB _ _ _ _ _ _) (fun k hk _ _ e=>by simp only [eA] at e;omega)) (by omega)
  ·have h1:Mod (jN w.heap.size) w (w1.setCell ⟨w.heap.size,3,none⟩ (.slice va c.writes.length vc)):=Mod.put (nT.mono (fun _ _ e=>e.elim)) _ _ (aF _) _;have h2:=h1.trans ((UB (w1.setCell ⟨w.heap.size,3,none⟩ (.slice va c.writes.length vc)) (w.heap.size+1) (.int .i64 c.kind) (.int .i64 c.tx) (.int .i64 c.time) (.slice va c.writes.length vc)).mono (G':=jN w.heap.size) (fun i _ e=>by simp only [eA,jN] at e ⊢;omega));exact h2.mono (fun i hi e=>by simp only [jN] at e;omega)
theorem eV.one{w:World}{L:Lo}(m:dw)(u:Value)(hL:L<=w.heap.size)(hu:iH w L u m.cmd.writes)(hg:qZ m) :
  eV (w.alloc (.cells #[.int .i64 m.kind,.int .i64 m.eF,.int .i64 m.to,.int .i64 m.dk,.int .i64 m.n,.int .i64 m.cmd.kind,.int .i64 m.cmd.tx,.int .i64 m.cmd.time,u] 112)) L (.slice (some ⟨w.heap.size,0,none⟩) 1 1) [m]:=by
 refine ⟨[u],rfl,⟨rfl,.inr ⟨w.heap.size,1,_,rfl,hL,heap_alloc_new w _,aF _,by unfold maxLen;omega,rfl,rfl⟩⟩,fun i m' u' hi hu'=>?_,fun m' hm'=>?_⟩
 ·have e:i=0:=by
   cases i with
   | zero=>rfl
   | succ i=>simp at hi
  subst e;simp at hi hu';subst hi hu';exact hu.mod ((Mod.refl dZ w).alloc _) (Qm.none _ _)
 ·simp at hm';subst hm';exact hg
def nc(s:eK)(wh:Int)(m:dw):List dw:=match iE s wh with
 | none=>[]
 | some t=>[⟨m.kind,s.id,t,s.dk,m.n,m.cmd⟩]
theorem Qw{s:eK}{wh t:Int}(h:iE s wh=some t):t∈s.nodes:=by
 unfold iE at h;split at h
 ·exact aC h
 ·cases h
def lC(w:World)(v:Value):Prop:=∀ k,v.ownBlock=some k->w.heap.size<=k
theorem MC(L:Lo)(g:Nat)(nv lv:Value)(s:eK)(wh:Int)(m:dw)(u:Value)(w:World)(h:fe w L g nv lv s)(uN:wh=1\/wh = -1)(hu:iH w L u m.cmd.writes)(jF:gO m.kind/\gO m.n/\CY m.cmd) :
  Calls Tryz.prog 100 #[.pointer (some ⟨g,0,none⟩),.int .i64 wh,.agg #[.int .i64 m.kind,.int .i64 m.eF,.int .i64 m.to,.int .i64 m.dk,.int .i64 m.n,.int .i64 m.cmd.kind,.int .i64 m.cmd.tx,.int .i64 m.cmd.time,u]] w fun e w'=>
   ∃ v,e=.returned v/\eV w' L v (nc s wh m)/\lC w v/\Mod dZ w w':=by
 obtain ⟨ua,dp,rfl⟩:∃ ua dp,u=.slice ua m.cmd.writes.length dp:=by obtain ⟨ua,dp,h,_⟩:=hu;exact ⟨ua,dp,h⟩
 obtain ⟨w1,hw1⟩:∃ q,q=w.alloc (.cells #[.int .i64 m.kind,.int .i64 m.eF,.int .i64 m.to,.int .i64 m.dk,.int .i64 m.n,.int .i64 m.cmd.kind,.int .i64 m.cmd.tx,.int .i64 m.cmd.time,.slice ua m.cmd.writes.length dp] 112):=⟨_,rfl⟩;have dh:Mod dZ w w1:=by rw [hw1];exact (Mod.refl _ w).alloc _
 have ff:dg w1 w.heap.size (ig m (.slice ua m.cmd.writes.length dp)) 112:=by rw [hw1];exact dg.new w _ _
 have h1:=h.quiet dh;have hgl:=h.blk.lt;have kD:=h.low;have HN:=dq (zPo L g nv lv s wh w1 h1 uN);have JX:=dq h.ints;have HU:=dq (hu.mod dh (Qm.none _ _));clear h hu;go_enter Tryz.func100,Tryz.ntmps100;go_upto_region 1 with fail;rw [<-hw1];clear hw1;go_wp2_with fail;refine HN.out.mono ?_;rintro e w2 ⟨rfl,m1,rfl⟩
 cases hn:iE s wh with
 | none=>
  have HS:Hid (nc s wh m=[]):=by rw [Hid,nc,hn]
  simp only [Option.getD_none,Option.isSome_none];clear HN;go_wp2_with fail;go_ret;exact ⟨_,rfl,by rw [HS.out];exact eV.nil _ _,fun k hk=>by simp [Value.ownBlock] at hk,dh.drewN _⟩
 | some t=>
  have HS:Hid (nc s wh m=[⟨m.kind,s.id,t,s.dk,m.n,m.cmd⟩]):=by rw [Hid,nc,hn]
  have ht:gO t:=JX.out.2.2 t (Qw hn);simp only [dL,Option.isSome_some];obtain ⟨c0,c1,c2,c3,c4⟩:=mQ h1.blk;obtain ⟨⟨x0,x1,x2,x3,x4,x5,x6,x7,x8⟩,⟨y0,y1,y2,y3,y4,y5,y6,y7,y8⟩⟩:=iM ff;have hz1:=ff.lt;have hgz1:g<w1.heap.size:=h1.blk.lt;clear HN h1;go_upto_region 4 with fail;go_region
  all_goals go_wp2_with fail
  go_ret;obtain ⟨w5,pB⟩:∃ q,q=(((w1.drewN (m1+1)).setCell ⟨w.heap.size,1,none⟩ (.int .i64 s.id)).setCell ⟨w.heap.size,2,none⟩ (.int .i64 t)).setCell ⟨w.heap.size,3,none⟩ (.int .i64 s.dk):=⟨_,rfl⟩;have FD:w5.heap.size=w1.heap.size:=by rw [pB];simp
  have AY:Mod (eA w.heap.size) w1 w5:=by
   rw [pB];exact ((((Mod.refl (eA w.heap.size) w1).drewN (m1+1)).trans (Mod.dt _ 1 _)).trans (Mod.dt _ 2 _)).trans (Mod.dt _ 3 _)
  have hq:Qm w1 L (eA w.heap.size):=fun k _ e=>by
   simp only [eA] at e;subst e;have hb:=ff;simp only [dg] at hb;rintro (e | ⟨⟨cur,fr,e⟩,_⟩)
   ·omega
   ·rw [hb] at e;simp at e
  have eP:Mod dZ w w5:=dh.trans' AY (fun i hi e=>by simp only [eA] at e;omega);rw [<-pB,<-FD];have Dl:L<=w5.heap.size:=by omega
  refine ⟨_,rfl,?_,fun k hk=>?_,eP.alloc _⟩
  ·rw [HS.out];exact eV.one ⟨m.kind,s.id,t,s.dk,m.n,m.cmd⟩ _ Dl (HU.out.mod AY hq) ⟨⟨jF.1,JX.out.1,ht,JX.out.2.1,jF.2.1,jF.2.2.1⟩,jF.2.2.2⟩
  ·have e:w5.heap.size=k:=by simpa [Value.ownBlock] using hk
   omega
def qU(kind n:Int):dw:=⟨kind,0,0,0,n,uf⟩
def zV(s:eK)(n:Int):eK:=⟨s.id,s.dk,s.nodes,s.log,n⟩
def kz(s:eK):eK × List dw:=if vy s then (zV s s.log.length,nc (zV s s.log.length) (-1) (qU 4 s.log.length)) else (s,nc s 1 (qU 1 s.log.length))
theorem RU(kind n:Int)(hk:gO kind)(hn:gO n):gO (qU kind n).kind/\gO (qU kind n).n/\CY (qU kind n).cmd:=by
 refine ⟨hk,hn,⟨?_,?_,?_⟩,?_⟩ <;> simp [qU,uf,gO]
theorem fe.wJ{w:World}{L:Lo}{g:Nat}{nv lv:Value}{s:eK}(h:fe w L g nv lv s)(n:Int)(hn:0<=n/\n<=s.log.length) :
  fe (w.setCell ⟨g,4,none⟩ (.int .i64 n)) L g nv lv (zV s n)/\Mod (eA g) w (w.setCell ⟨g,4,none⟩ (.int .i64 n)):=by
 obtain ⟨a1,a2,_⟩:=h.apart;have hm:Mod (eA g) w (w.setCell ⟨g,4,none⟩ (.int .i64 n)):=Mod.dt g 4 _;have hq:Qm w L (eA g):=Qm.wM h (fun k _ e=>.inl e);exact ⟨⟨h.blk.set 4 _,h.low,fm h.ns hm (fun k _ _ hk e=>a1 (by rw [hk];rw [e])),h.lg.mod hm hq (fun k hk e=>a2 (by rw [hk];rw [e])),h.ints,h.few,hn,fun k hk=>aH (h.xb k hk) hm.size⟩,hm⟩
theorem MD(L:Lo)(g:Nat)(nv lv:Value)(s:eK)(w:World)(h:fe w L g nv lv s) :
  Calls Tryz.prog 59 #[.pointer (some ⟨g,0,none⟩)] w fun e w'=>∃ v,e=.returned v/\fe w' L g nv lv (kz s).1/\eV w' L v (kz s).2/\lC w v/\Mod (eA g) w w':=by
 obtain ⟨la,ey,hlv⟩:=h.lg.slice;subst hlv;have HT:=dq (yHe L g nv _ s w h);have kD:=h.low;have fR:=h.few;go_enter Tryz.func59,Tryz.ntmps59;go_wp2_with fail;refine HT.out.mono ?_;rintro e w1 ⟨rfl,m1,rfl⟩;have h1:=h.drewN m1;have hmz:Mod dZ w (w.drewN m1):=(Mod.refl _ w).drewN m1;obtain ⟨c0,c1,c2,c3,c4⟩:=mQ h1.blk;have f4:=h1.blk.frozen 4;have vM:=h1.blk.lt;clear HT h
 cases ht:vy s with
 | false=>
  have HK:Hid (kz s=(s,nc s 1 (qU 1 s.log.length))):=by rw [Hid,kz,ht];rfl
  have HS:=dq (MC L g nv _ s 1 (qU 1 s.log.length) (.slice none 0 0) (w.drewN m1) h1 (.inl rfl) (iH.nil _ _) (RU _ _ (by simp [gO]) (by simp only [gO];omega)));have HN:=dq h1;clear h1;go_wp2_with fail;refine HS.out.mono ?_;rintro e w2 ⟨v,rfl,hR,qu,hm2⟩;clear HS;go_wp2_with fail;go_ret;exact ⟨v,rfl,by rw [HK.out];exact HN.out.quiet hm2,by rw [HK.out];exact hR,qu,(hmz.trans hm2).mono (fun _ _ e=>e.elim)⟩
 | true=>
  have HK:Hid (kz s=(zV s s.log.length,nc (zV s s.log.length) (-1) (qU 4 s.log.length))):=by rw [Hid,kz,ht];rfl
  obtain ⟨lO,hm2⟩:=h1.wJ s.log.length (by omega);have d4:=lO.blk.cell 4 rfl;have HS:=dq (MC L g nv _ (zV s s.log.length) (-1) (qU 4 s.log.length) (.slice none 0 0) _ lO (.inr rfl) (iH.nil _ _) (RU _ _ (by simp [gO]) (by simp only [gO];omega)));have HN:=dq lO;have HM:=dq hm2;simp only [zV] at d4;clear h1 lO hm2;go_wp2_with fail;refine HS.out.mono ?_;rintro e w3 ⟨v,rfl,hR,qu,dy⟩;clear HS;go_wp2_with fail;go_ret;refine ⟨v,rfl,by rw [HK.out];exact HN.out.quiet dy,by rw [HK.out];exact hR,fun k hk=>?_,((hmz.mono (fun _ _ e=>e.elim)).trans HM.out).trans (dy.mono (fun _ _ e=>e.elim))⟩;have:=qu k hk;simpa using this
theorem eV.snoc{w w6:World}{L:Lo}{v v6 u:Value}{ms:List dw}{m:dw}{us:List Value}(mD:us.length=ms.length)(hrow:w.ownsRow L 112 9 v ms.length (gy ms us))
  (hps:∀ (i:Nat) m u,ms[i]?=some m->us[i]?=some u->iH w L u m.cmd.writes) (hgd:∀ m∈ms,qZ m) (hu:iH w L u m.cmd.writes) (jF:qZ m)
  (fs:Mod (fun k=>v.ownBlock=some k) w w6) (iC:w6.ownsRow L 112 9 v6 (ms.length+1) (gy ms us++ig m u)):eV w6 L v6 (ms++[m]):=by
 have CB:=Qm.row hrow (aF _) (by decide);refine ⟨us++[u],by simp [mD],by rw [Rk _ _ _ _ mD];simpa using iC,fun i m' u' hi hu'=>?_,fun m' hm'=>?_⟩
 ·by_cases hlt:i<ms.length
  ·rw [aE hlt] at hi;rw [aE (by omega)] at hu';exact (hps i m' u' hi hu').mod fs CB
  ·have hi':i=ms.length:=by
    rcases dN i (ms.length+1) with h' | h'
    ·omega
    ·rw [ah (by simpa using h')] at hi;cases hi
   subst hi';rw [aM (aF _)] at hi;rw [aM (by omega)] at hu';simp [mD] at hi hu';subst hi hu';exact hu.mod fs CB
 ·rcases aN.1 hm' with e | e
  ·exact hgd m' e
  ·simp at e;subst e;exact jF
theorem gZ.snoc{w w6:World}{L:Lo}{v v6 u:Value}{ms:List dv}{m:dv}{us:List Value}(mD:us.length=ms.length)(hrow:w.ownsRow L 65 4 v ms.length (zW ms us))
  (hps:∀ (i:Nat) m u,ms[i]?=some m->us[i]?=some u->iH w L u m.writes) (hgd:∀ m∈ms,CY m) (hu:iH w L u m.writes) (jF:CY m)
  (fs:Mod (fun k=>v.ownBlock=some k) w w6) (iC:w6.ownsRow L 65 4 v6 (ms.length+1) (zW ms us++wD m u)):gZ w6 L v6 (ms++[m]):=by
 have CB:=Qm.row hrow (aF _) (by decide);refine ⟨us++[u],by simp [mD],by rw [zPr _ _ _ _ mD];simpa using iC,fun i m' u' hi hu'=>?_,fun m' hm'=>?_⟩
 ·by_cases hlt:i<ms.length
  ·rw [aE hlt] at hi;rw [aE (by omega)] at hu';exact (hps i m' u' hi hu').mod fs CB
  ·have hi':i=ms.length:=by
    rcases dN i (ms.length+1) with h' | h'
    ·omega
    ·rw [ah (by simpa using h')] at hi;cases hi
   subst hi';rw [aM (aF _)] at hi;rw [aM (by omega)] at hu';simp [mD] at hi hu';subst hi hu';exact hu.mod fs CB
 ·rcases aN.1 hm' with e | e
  ·exact hgd m' e
  ·simp at e;subst e;exact jF
def nU(s:eK)(t:Int)(k:Nat)(c:dv):dw:=⟨3,s.id,t,s.dk,k,c⟩
def ml(s:eK)(t:Int)(f n:Nat):List dw:=(List.range n).map (fun j=>nU s t (f+j) (s.log.getD (f+j) uf))
theorem yOv(s:eK)(t:Int)(f n:Nat)(c:dv)(hc:s.log[f+n]?=some c):ml s t f (n+1)=ml s t f n++[nU s t (f+n) c]:=by
 unfold ml;rw [aj,ay,List.map_singleton,aI,hc];rfl
theorem ySz(s:eK)(t:Int)(f n:Nat):(ml s t f n).length=n:=by simp [ml]
theorem zUr(L:Lo)(g:Nat)(nv lv:Value)(s:eK)(t:Int)(f:Int)(w:World)(h:fe w L g nv lv s)(hn:iE s 1=some t)(hf:0<=f) :
  Calls Tryz.prog 101 #[.pointer (some ⟨g,0,none⟩),.int .i64 f] w fun e w'=>∃ v,e=.returned v/\eV w' L v (ml s t f.toNat (s.log.length - f.toNat))/\lC w v/\Mod dZ w w':=by
 obtain ⟨i0,hi,hz0,hz1,hz2⟩:=info_parts Tryz.pS;obtain ⟨fn,rfl⟩:∃ fn:Nat,f=fn:=⟨f.toNat,by omega⟩;rw [aV];obtain ⟨la,ey,hlv⟩:=h.lg.slice;subst hlv;have fR:=h.few.2;have kD:=h.low;have LV:Hid (∀ k,gw g nv (.slice la s.log.length ey) k->k<w.heap.size):=fun k hk=>(h.lt hk).2.1;go_enter Tryz.func101,Tryz.ntmps101;go_wp2_with fail;go_loopw [5,6] (fun v i wr=>∃ j:Nat,j<=s.log.length - fn/\i=.int .i64 ((fn+j:Nat):Int)/\fe wr L g nv (.slice la s.log.length ey) s/\eV wr L v (ml s t fn j)/\lC w v/\Mod dZ w wr) (fun _ i _=>s.log.length - (intOf i).toNat)
 case atStart=>exact ⟨0,aT _,rfl,h,eV.nil _ _,fun k hk=>by simp [Value.ownBlock] at hk,Mod.refl _ _⟩
 case round=>
  obtain ⟨j,hj,rfl,hN,hR,qu,hM⟩:=hrel;clear h;obtain ⟨c0,c1,c2,c3,c4⟩:=mQ hN.blk;by_cases hlt:fn+j<s.log.length
  ·obtain ⟨c,hc⟩:∃ c,s.log[fn+j]?=some c:=⟨_,aA hlt⟩;obtain ⟨b,yJ,u,hv,hb1,hb2,hu,uQ,q0,q1,q2,q3⟩:=hN.lg.at hc;simp only [Value.slice.injEq] at hv;obtain ⟨rfl,_,rfl⟩:=hv;obtain ⟨ua,dp,rfl⟩:∃ ua dp,u=.slice ua c.writes.length dp:=by obtain ⟨ua,dp,h,_⟩:=hu;exact ⟨ua,dp,h⟩
   obtain ⟨kk,hkk⟩:∃ kk:Nat,kk=fn+j:=⟨_,rfl⟩;have jz:=dq (yOv s t fn j c hc);rw [<-hkk] at hlt q0 q1 q2 q3 jz ⊢;have HO:=dq (TS L c (.slice ua c.writes.length dp) wr hu (by have:=uQ.2;omega));have jd:(kk:Int)<(s.log.length:Int):=by omega
   have lJ:(0:Int)<=(kk:Int):=by omega
   have qN:=dq hkk;clear hu hc hkk;go_wp2_with fail;refine HO.out.mono ?_;rintro e w5 ⟨uo,rfl,iZ,eP⟩;obtain ⟨Gh,Gg,rfl⟩:=eu iZ;have hu5:=iH.iA (L:=L) iZ (fun k hk=>hN.xb k hk);have mj:=hN.quiet eP;have sX:=hR.mod eP (Qm.none _ _) (fun _ _=>id);have HS:=dq (MC L g nv _ s 1 ⟨3,0,0,0,kk,c⟩ (.slice Gh c.writes.length Gg) w5 mj (.inl rfl) hu5 ⟨by simp [gO],by simp only [gO];omega,uQ⟩);have wZ:=hM.trans eP;clear HO iZ hN hR hM q0 q1 q2 q3 c0 c1 c2 c3 c4;go_wp2_with fail;refine HS.out.mono ?_;rintro e w6 ⟨v6,rfl,vQ,hfv6,fs⟩;have hs1:nc s 1 ⟨3,0,0,0,kk,c⟩=[nU s t kk c]:=by unfold nc;rw [hn];rfl
   rw [hs1] at vQ;obtain ⟨b6,bc6,us6,sB,_,_,Bw,Oe,r0,r1,r2,r3,r4,r5,r6,r7,r8⟩:=vQ.at (i:=0) (m:=nU s t kk c) rfl;obtain ⟨Vq,Vp,rfl⟩:∃ ua dp,us6=.slice ua c.writes.length dp:=by obtain ⟨ua,dp,h,_⟩:=Bw;exact ⟨ua,dp,h⟩
   have tV:=mj.quiet fs;have Ya:=sX.mod fs (Qm.none _ _) (fun _ _=>id);have CM:=wZ.trans fs;have hz6:=CM.size;have Pq:Hid (∀ (i:Nat) x,(ig (nU s t kk c) (.slice Vq c.writes.length Vp))[i]?=some x->w6.cell? ((⟨b6,0,none⟩:Addr).add i)=some x):=by
    intro i x hx;rw [Go.WideShapes.add_plain,aX];have hi9:i<9:=(aB.1 hx).1;have hcs:i=0\/i=1\/i=2\/i=3\/i=4\/i=5\/i=6\/i=7\/i=8:=by omega
    simp only [cg,aX] at r0 r1 r2 r3 r4 r5 r6 r7 r8;rcases hcs with rfl | rfl | rfl | rfl | rfl | rfl | rfl | rfl | rfl <;> (simp [ig] at hx;subst hx;assumption)
   obtain ⟨us,mD,hrow,hps,hgd⟩:=Ya;have fY:=dq hrow;have rI:=dq hps;have vp:=dq hgd;have HU:=dq Bw;have TD:=dq Oe;have oM:=dq (ySz s t fn j);rw [oM.out] at fY;have iJ:j+1<=maxLen:=by unfold maxLen;omega
   have iK:(j+1)*88<=140737488355328:=by omega
   have Fb:L<=w6.heap.size:=by have:=tV.blk.lt;omega
   simp only [aW,az] at sB;rw [sB];have Sx:=dq tV;clear hrow hps hgd HS mj sX wZ vQ Bw Oe r0 r1 r2 r3 r4 r5 r6 r7 r8 sB tV hs1 hu5 eP fs;go_wp2_with (first
    | (at_builtin;refine wpList_append_own_at _ rfl (.tmp 17) (.tmp 29) 76 rfl L 112 i0 _ 9 88 Tryz.underlying76 hi hz0 hz1 hz2 rfl (by omega) _ _ _ rfl fY.out ⟨b6,0,none⟩ 1 bc6 (ig (nU s t kk c) (.slice Vq c.writes.length Vp)) rfl rfl Pq.out (Va _ _ _ _) iJ iK Fb ?_)
    | fail)
   intro v7 w7 eJ hgrow _ hloc;have iO:Mod (fun k=>u5.ownBlock=some k) w6 w7:=(Mod.refl _ w6).grown hgrow (fun x hx _=>hx);have rU:=eV.snoc mD (by rw [oM.out];exact fY.out) rI.out vp.out HU.out TD.out iO (by rw [oM.out];exact eJ);have Iq:Mod dZ w w7:=CM.trans' iO (fun i hi e=>by have:=qu i e;omega);have uR:=Sx.out.mod iO (Qm.row fY.out (aF _) (by decide)) (fun k hk e=>by have:=LV.out k hk;have:=qu k e;omega);have zA:lC w v7:=fun k hk=>by
    rcases hloc with e | e
    ·exact qu k (by rw [<-e];exact hk)
    ·rw [e] at hk;simp at hk;omega
   rw [<-jz.out] at rU;have Fp:=dq rU;have HN7:=dq uR;clear eJ hgrow hloc fY rI vp HU TD Pq CM rU uR iO Sx;go_wp2_with fail;go_roundw
   case rel=>exact ⟨j+1,by have:=qN.out;omega,by rw [show fn+(j+1)=kk+1 by have:=qN.out;omega];go_num,HN7.out,Fp.out,zA,Iq⟩
   case measure=>simp [intOf];omega
  ·have hd:decide (((fn+j:Nat):Int)<(s.log.length:Int))=false:=aL (by omega);obtain rfl:j=s.log.length - fn:=by omega
   have HR:=dq hR;clear hN hR;go_wp2_with fail;go_ret;exact ⟨_,rfl,HR.out,qu,hM⟩
end Go.Proofs.YtmaiggbnceejiaaGreatDoor
