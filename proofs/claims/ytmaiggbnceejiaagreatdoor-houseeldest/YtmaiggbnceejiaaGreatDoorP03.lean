import Derived.Test.YtmaiggbnceejiaaGreatDoorP02
import Derived.Laws.IdiomCopy
import Derived.Deep.RegionLaw
import Derived.Deep.CutBlock
import Derived.BigRegion
set_option linter.unusedVariables false
set_option maxRecDepth 100000
set_option maxHeartbeats 16000000
namespace Go.Proofs.YtmaiggbnceejiaaGreatDoor
open Go.RowKit Go.Lib Go.Maps
variable {E:Ext}
theorem Qm.row{w:World}{B:Nat}{L:Lo}{e:TypeId}{size n:Nat}{v:Value}{xs:List Value}(h:w.ownsRow B e size v n xs)(hL:L<=B)(he:e≠68):Qm w L (fun k=>v.ownBlock=some k):=fun k _ hk=>by
 rcases h.2 with ⟨e',_⟩ | ⟨g',cap,cur,e',h1,hg,_⟩
 ·rw [e'] at hk;simp [Value.ownBlock] at hk
 ·rw [e'] at hk;simp [Value.ownBlock] at hk;subst hk;rintro (e1 | ⟨⟨cur',fr,e1⟩,_⟩)
  ·omega
  ·rw [hg] at e1;simp at e1;exact he e1.2.1
end Go.Proofs.YtmaiggbnceejiaaGreatDoor
namespace Go.Proofs.YtmaiggbnceejiaaGreatDoor
open Go.RowKit Go.Lib Go.Maps
def rQ(x:Int):List Int->Option Nat
 | []=>none
 | y :: ys=>if x=y then some 0 else (rQ x ys).map (·+1)
theorem Ta(x:Int):∀ (l:List Int) (k:Nat),(∀ i y,i<k->l[i]?=some y->x≠y)->l[k]?=some x->rQ x l=some k
 | [],_,_,h=>by simp at h
 | y :: ys,0,_,h=>by simp at h;subst h;simp [rQ]
 | y :: ys,k+1,hf,h=>by
  have h0:=hf 0 y (by omega) rfl;have:=Ta x ys k (fun i z hi hz=>hf (i+1) z (by omega) (by simpa using hz)) (by simpa using h);simp [rQ,h0,this]
theorem zUq(x:Int):∀ (l:List Int),(∀ (i:Nat) y,l[i]?=some y->x≠y)->rQ x l=none
 | [],_=>rfl
 | y :: ys,h=>by
  have h0:=h 0 y rfl;simp [rQ,h0,zUq x ys (fun i z hz=>h (i+1) z (by simpa using hz))]
theorem zUp(x:Int):∀ (l:List Int) (k:Nat),rQ x l=some k->l[k]?=some x
 | [],_,h=>by simp [rQ] at h
 | y :: ys,k,h=>by
  unfold rQ at h;split at h
  ·rename_i e;simp at h;subst h;simp [e]
  ·cases hf:rQ x ys with
   | none=>rw [hf] at h;simp at h
   | some j=>
    rw [hf] at h;simp at h;subst h;simpa using zUp x ys j hf
def MS(o:Option Nat):Int:=match o with | none=>-1 | some k=>k
structure eH where
 id:Int
 db:Int
 nodes:List Int
 log:List dt
 gj:Int
def sG(s:eH):Int:=MS (rQ s.id s.nodes)
theorem zRw(s:eH):sG s = -1\/∃ k:Nat,sG s=k/\s.nodes[k]?=some s.id/\k<s.nodes.length:=by
 unfold sG
 cases h:rQ s.id s.nodes with
 | none=>exact .inl rfl
 | some k=>
  have hk:=zUp _ _ _ h;exact .inr ⟨k,rfl,hk,(aB.1 hk).1⟩
def oD(s:eH):Bool:=decide (0<=sG s)
def mR(s:eH):Bool:=sG s == 0
def te(s:eH):Bool:=oD s && (sG s == (s.nodes.length:Int) - 1)
def gp(s:eH)(wh:Int):Option Int:=if oD s && (decide (0<=sG s+wh) && decide (sG s+wh<(s.nodes.length:Int))) then s.nodes[(sG s+wh).toNat]? else none
def mz(w:World)(v:Value)(ns:List Int):Prop:=
 ∃ a cap,v=.slice a ns.length cap/\ns.length<=cap/\cap<=maxLen/\(ns=[]\/∃ b off,a=some ⟨b,off,none⟩/\∀ (j:Nat) x,ns[j]?=some x->w.cell? ⟨b,off+j,none⟩=some (.int .i64 x))
theorem mz.drewN{w:World}{v:Value}{ns:List Int}(h:mz w v ns)(n:Nat):mz (w.drewN n) v ns:=h
theorem mz.iY{w:World}{B:Nat}{v:Value}{ns:List Int}(h:w.ownsRow B 3 1 v ns.length (ns.map (Value.int .i64))):mz w v ns:=by
 rcases h.2 with ⟨e,h0⟩ | ⟨g,cap,cur,e,_,hg,hc1,hc2,_⟩
 ·have:ns=[]:=aT h0;subst this;exact ⟨none,0,e,aF _,aV _,.inl rfl⟩
 ·refine ⟨_,cap,e,hc1,hc2,.inr ⟨g,0,rfl,fun j x hx=>?_⟩⟩;subst e;have hc:=h.cells (g:=g) rfl j (.int .i64 x) (by simp [hx]);rw [Go.WideShapes.add_plain] at hc;exact hc
theorem zXe(v:Value)(ns:List Int)(x:Int)(w:World)(hv:mz w v ns) :
  Calls Tryz.prog 122 #[v,.int .i64 x] w fun e w'=>e=.returned (.int .i64 (MS (rQ x ns)))/\w'=w:=by
 obtain ⟨a,cap,rfl,hc1,hc2,hcl⟩:=hv;unfold maxLen at hc2;have qt:=eC hcl;clear hcl;go_enter Tryz.func122,Tryz.ntmps122;go_wp2_with fail;go_loopw [8] (fun i wr=>∃ k:Nat,k<=ns.length/\i=.int .i64 k/\(∀ i y,i<k->ns[i]?=some y->x≠y)/\wr=w) (fun i _=>ns.length - (intOf i).toNat)
 case atStart=>exact ⟨0,aV _,rfl,fun i y h=>by omega,rfl⟩
 case round=>
  obtain ⟨k,hk,rfl,hno,rfl⟩:=hrel;have kv:=eC hno;clear hno;by_cases hlt:k<ns.length
  ·obtain ⟨y,hy⟩:∃ y,ns[k]?=some y:=⟨_,aA hlt⟩;rcases qt.out with e | ⟨b,off,rfl,hcl⟩
   ·rw [e] at hlt;simp at hlt
   have q0:=hcl k y hy;have HY:=eC hy;have kO:(k:Int)<(ns.length:Int):=by omega
   have ow:(0:Int)<=(k:Int):=by omega
   clear hcl hy;by_cases hxy:x=y
   ·subst hxy;have HF:Hid (rQ x ns=some k):=Ta x ns k kv.out HY.out;go_wp2_with fail;go_ret;exact ⟨by rw [HF.out];rfl,rfl⟩
   ·have hne:(x == y)=false:=by simpa using hxy
    go_wp2_with fail;go_roundw
    case rel=>
     refine ⟨k+1,by omega,by go_num,fun i z hi hz=>?_,by trivial⟩;by_cases e:i=k
     ·subst e;have h2:=HY.out;rw [h2] at hz;cases hz;exact hxy
     ·exact kv.out i z (by omega) hz
    case measure=>simp [intOf];omega
  ·obtain rfl:k=ns.length:=by omega
   have HF:Hid (rQ x ns=none):=zUq x ns (fun i y hi=>kv.out i y ((aB.1 hi).1) hi);go_wp2_with fail;go_ret;exact ⟨by rw [HF.out];rfl,rfl⟩
def Bg(c:dt):Prop:=EL c/\c.writes.length<=40
def gU(w:World)(L:Lo)(v:Value)(cs:List dt):Prop:=
 ∃ us:List Value,us.length=cs.length/\w.ownsRow L 65 4 v cs.length (ye cs us)/\(∀ (i:Nat) c u,cs[i]?=some c->us[i]?=some u->iE w L u c.writes)/\∀ c∈cs,Bg c
theorem gU.nil(w:World)(L:Lo):gU w L (.slice none 0 0) []:=⟨[],rfl,World.ownsRow_nil _ _ _ _,fun i m u h=>by simp at h,by simp⟩
theorem gU.mod{G:Nat->Prop}{w w':World}{L:Lo}{v:Value}{cs:List dt}(h:gU w L v cs)(hm:Mod G w w')(hq:Qm w L G)(hG:∀ k,v.ownBlock=some k->¬ G k):gU w' L v cs:=by
 obtain ⟨us,h1,h2,h3,h4⟩:=h;exact ⟨us,h1,gD h2 hm (fun k _ _ e=>hG k e),fun i m u hi hu=>(h3 i m u hi hu).mod hm hq,h4⟩
theorem gU.slice{w:World}{L:Lo}{v:Value}{cs:List dt}(h:gU w L v cs):∃ a cap,v=.slice a cs.length cap:=by
 obtain ⟨us,_,h2,_⟩:=h;exact fJ h2
theorem Qv:∀ (cs:List dt) (us:List Value) (i:Nat) (c:dt) (u:Value),us.length=cs.length->cs[i]?=some c->us[i]?=some u->∀ j x,(vh c u)[j]?=some x->(ye cs us)[i*4+j]?=some x
 | [],_,_,_,_,_,h,_,_,_,_=>by simp at h
 | _ :: _,[],_,_,_,h,_,_,_,_,_=>by simp at h
 | c' :: cs,u' :: us,0,c,u,_,h,h',j,x,hx=>by
  simp at h h';subst h h';have hj:j<(vh c' u').length:=(aB.1 hx).1;rw [cj,ah,ye,aI hj];exact hx
 | c' :: cs,u' :: us,i+1,c,u,hl,h,h',j,x,hx=>by
  have:=Qv cs us i c u (by simpa using hl) (by simpa using h) (by simpa using h') j x hx;have e:(i+1)*4+j=(vh c' u').length+(i*4+j):=by simp [vh];omega
  rw [e,ye,aO (by omega),Nat.add_sub_cancel_left];exact this
theorem gU.at{w:World}{L:Lo}{v:Value}{cs:List dt}(h:gU w L v cs){i:Nat}{c:dt}(hi:cs[i]?=some c) :
  ∃ g cap u,v=.slice (some ⟨g,0,none⟩) cs.length cap/\cs.length<=cap/\cap<=maxLen/\iE w L u c.writes/\Bg c /\
   w.cell? ⟨g,i*4,none⟩=some (.int .i64 c.kind)/\w.cell? ⟨g,i*4+1,none⟩=some (.int .i64 c.tx)/\w.cell? ⟨g,i*4+2,none⟩=some (.int .i64 c.time)/\w.cell? ⟨g,i*4+3,none⟩=some u:=by
 obtain ⟨us,h1,h2,h3,h4⟩:=h;have hlt:i<cs.length:=(aB.1 hi).1;obtain ⟨u,hu⟩:∃ u,us[i]?=some u:=⟨_,aA (by omega)⟩;rcases h2.2 with ⟨_,h0⟩ | ⟨g,cap,cur,rfl,_,hg,hc1,hc2,_,_⟩
 ·omega
 ·have hc:=h2.cells (g:=g) rfl;have vH:∀ j,(⟨g,0,none⟩:Addr).add j=⟨g,j,none⟩:=fun j=>by rw [Go.WideShapes.add_plain,ah]
  have key:∀ j x,(vh c u)[j]?=some x->w.cell? ⟨g,i*4+j,none⟩=some x:=fun j x hx=>by
   have:=hc _ _ (Qv cs us i c u h1 hi hu j x hx);rw [vH] at this;exact this
  exact ⟨g,cap,u,rfl,hc1,hc2,h3 i c u hi hu,h4 c (aC hi),key 0 _ rfl,key 1 _ rfl,key 2 _ rfl,key 3 _ rfl⟩
theorem ft{w:World}{B:Nat}{v:Value}{e:TypeId}{sz n:Nat}{xs:List Value}(ho:w.ownsRow B e sz v n xs){k:Nat}(hk:v.ownBlock=some k):B<=k/\k<w.heap.size/\∃ cur,w.heap[k]?=some (.cells cur e (0,0)):=by
 rcases ho.2 with ⟨e',_⟩ | ⟨g',cap,cur,e',hb,hg,_⟩
 ·rw [e'] at hk;simp [Value.ownBlock] at hk
 ·rw [e'] at hk;simp [Value.ownBlock] at hk;subst hk;exact ⟨hb,(aK.1 hg).1,cur,hg⟩
structure fh(w:World)(L:Lo)(g:Nat)(nv lv:Value)(s:eH):Prop where
 blk:dh w g [.int .i64 s.id,.int .i64 s.db,nv,lv,.int .i64 s.gj] 132
 low:L<=g
 ns:w.ownsRow L 3 1 nv s.nodes.length (s.nodes.map (Value.int .i64))
 lg:gU w L lv s.log
 ints:gw s.id/\gw s.db/\∀ x∈s.nodes,gw x
 few:s.nodes.length<=1000000/\s.log.length<=500
 st:0<=s.gj/\s.gj<=s.log.length
 xb:∀ k,L.x k->k<w.heap.size
def gx(g:Nat)(nv lv:Value)(k:Nat):Prop:=k=g\/nv.ownBlock=some k\/lv.ownBlock=some k
theorem fh.lt{w:World}{L:Lo}{g:Nat}{nv lv:Value}{s:eH}(h:fh w L g nv lv s){k:Nat}(hk:gx g nv lv k):L<=k/\k<w.heap.size/\¬ St w L k:=by
 rcases hk with rfl | hk | hk
 ·refine ⟨h.low,h.blk.lt,?_⟩;rintro (e | ⟨⟨cur,fr,e⟩,_⟩)
  ·have:=h.low;omega
  ·have:=h.blk;simp only [dh] at this;rw [this] at e;simp at e
 ·obtain ⟨h1,h2,_⟩:=ft h.ns hk;exact ⟨h1,h2,Qm.row h.ns (aF _) (by decide) k h2 hk⟩
 ·obtain ⟨us,_,h2,_⟩:=h.lg;obtain ⟨h3,h4,_⟩:=ft h2 hk;exact ⟨h3,h4,Qm.row h2 (aF _) (by decide) k h4 hk⟩
theorem fh.qm{w:World}{L:Lo}{g:Nat}{nv lv:Value}{s:eH}(h:fh w L g nv lv s):Qm w L (gx g nv lv):=fun _ _ hk=>(h.lt hk).2.2
theorem Qm.vn{w:World}{L:Lo}{g:Nat}{nv lv:Value}{s:eH}(h:fh w L g nv lv s){G:Nat->Prop}(hG:∀ k,k<w.heap.size->G k->gx g nv lv k):Qm w L G:=fun k hk hg=>(h.lt (hG k hk hg)).2.2
theorem fh.mod{G:Nat->Prop}{w w':World}{L:Lo}{g:Nat}{nv lv:Value}{s:eH}(h:fh w L g nv lv s)(hm:Mod G w w')(hq:Qm w L G)(hG:∀ k,gx g nv lv k->¬ G k):fh w' L g nv lv s:=
 ⟨h.blk.mod hm (hG g (.inl rfl)),h.low,gD h.ns hm (fun k _ _ e=>hG k (.inr (.inl e))),h.lg.mod hm hq (fun k hk=>hG k (.inr (.inr hk))),h.ints,h.few,h.st,fun k hk=>aG (h.xb k hk) hm.size⟩
theorem fh.quiet{w w':World}{L:Lo}{g:Nat}{nv lv:Value}{s:eH}(h:fh w L g nv lv s)(hm:Mod dZ w w'):fh w' L g nv lv s:=h.mod hm (Qm.none _ _) (fun _ _=>id)
theorem fh.drewN{w:World}{L:Lo}{g:Nat}{nv lv:Value}{s:eH}(h:fh w L g nv lv s)(n:Nat):fh (w.drewN n) L g nv lv s:=h.quiet ((Mod.refl _ w).drewN n)
theorem fh.apart{w:World}{L:Lo}{g:Nat}{nv lv:Value}{s:eH}(h:fh w L g nv lv s):nv.ownBlock≠some g/\lv.ownBlock≠some g/\∀ k,nv.ownBlock=some k->lv.ownBlock≠some k:=by
 have hb:=h.blk;simp only [dh] at hb;obtain ⟨us,_,h2,_⟩:=h.lg;refine ⟨fun e=>?_,fun e=>?_,fun k e e'=>?_⟩
 ·obtain ⟨_,_,cur,hc⟩:=ft h.ns e;rw [hb] at hc;simp at hc
 ·obtain ⟨_,_,cur,hc⟩:=ft h2 e;rw [hb] at hc;simp at hc
 ·obtain ⟨_,_,cur,hc⟩:=ft h.ns e;obtain ⟨_,_,cur',hc'⟩:=ft h2 e';rw [hc] at hc';simp at hc'
theorem mG{w:World}{g:Nat}{a0 a1 a2 a3 a4:Value}{t:TypeId}(h:dh w g [a0,a1,a2,a3,a4] t) :
  w.cell? ⟨g,0,none⟩=some a0/\w.cell? ⟨g,1,none⟩=some a1/\w.cell? ⟨g,2,none⟩=some a2/\w.cell? ⟨g,3,none⟩=some a3/\w.cell? ⟨g,4,none⟩=some a4:=
 ⟨h.cell 0 rfl,h.cell 1 rfl,h.cell 2 rfl,h.cell 3 rfl,h.cell 4 rfl⟩
theorem Ll(L:Lo)(g:Nat)(nv lv:Value)(s:eH)(w:World)(h:fh w L g nv lv s) :
  Calls Tryz.prog 137 #[.pointer (some ⟨g,0,none⟩)] w fun e w'=>e=.returned (.int .i64 (sG s))/\∃ m,w'=w.drewN m:=by
 obtain ⟨c0,c1,c2,c3,c4⟩:=mG h.blk;have HI:=eC (mz.iY h.ns);clear h;go_enter Tryz.func137,Tryz.ntmps137;go_wp2_with fail;go_quiet (first
  | (go_at_call 122;refine Calls.quiet_of_same (zXe _ _ _ _ (HI.out.drewN _)))
  | fail)
 go_wp2_with fail;go_ret;exact ⟨rfl,_,rfl⟩
theorem MC(L:Lo)(g:Nat)(nv lv:Value)(s:eH)(w:World)(h:fh w L g nv lv s) :
  Calls Tryz.prog 136 #[.pointer (some ⟨g,0,none⟩)] w fun e w'=>e=.returned (.bool (oD s))/\∃ m,w'=w.drewN m:=by
 have HP:=eC (Ll L g nv lv s w h);clear h;go_enter Tryz.func136,Tryz.ntmps136;go_wp2_with fail;refine HP.out.mono ?_;rintro e w1 ⟨rfl,m,rfl⟩;go_wp2_with fail;go_ret;exact ⟨rfl,m,rfl⟩
theorem yRa(L:Lo)(g:Nat)(nv lv:Value)(s:eH)(w:World)(h:fh w L g nv lv s) :
  Calls Tryz.prog 128 #[.pointer (some ⟨g,0,none⟩)] w fun e w'=>e=.returned (.bool (mR s))/\∃ m,w'=w.drewN m:=by
 have HP:=eC (Ll L g nv lv s w h);clear h;go_enter Tryz.func128,Tryz.ntmps128;go_wp2_with fail;refine HP.out.mono ?_;rintro e w1 ⟨rfl,m,rfl⟩;go_wp2_with fail;go_ret;exact ⟨rfl,m,rfl⟩
theorem yGk(L:Lo)(g:Nat)(nv lv:Value)(s:eH)(w:World)(h:fh w L g nv lv s) :
  Calls Tryz.prog 104 #[.pointer (some ⟨g,0,none⟩)] w fun e w'=>e=.returned (.bool (te s))/\∃ m,w'=w.drewN m:=by
 obtain ⟨na,jh,oq⟩:=fJ h.ns;subst oq;obtain ⟨c0,c1,c2,c3,c4⟩:=mG h.blk;have hf:=h.few.1;have HN:=eC h;clear h;go_enter Tryz.func104,Tryz.ntmps104;go_wp2_with fail
 cases hin:oD s with
 | true=>
  have sL:Hid (∀ n,Calls Tryz.prog 136 #[.pointer (some ⟨g,0,none⟩)] (w.drewN n) fun e w'=>e=.returned (.bool true)/\∃ m,w'=(w.drewN n).drewN m):=fun n=>by have:=MC _ _ _ _ _ _ (HN.out.drewN n);rw [hin] at this;exact this
  have HT:Hid (te s=(sG s == (s.nodes.length:Int) - 1)):=by rw [Hid,te,hin];rfl
  go_quiet (first
   | (go_at_call 136;refine Calls.quiet_of (sL.out _))
   | (go_at_call 137;refine Calls.quiet_of (Ll _ _ _ _ _ _ (HN.out.drewN _)))
   | fail)
  go_wp2_with fail;go_ret;exact ⟨by rw [HT.out];rfl,_,rfl⟩
 | false=>
  have sL:Hid (∀ n,Calls Tryz.prog 136 #[.pointer (some ⟨g,0,none⟩)] (w.drewN n) fun e w'=>e=.returned (.bool false)/\∃ m,w'=(w.drewN n).drewN m):=fun n=>by have:=MC _ _ _ _ _ _ (HN.out.drewN n);rw [hin] at this;exact this
  have HT:Hid (te s=false):=by rw [Hid,te,hin];rfl
  go_quiet (first
   | (go_at_call 136;refine Calls.quiet_of (sL.out _))
   | (go_at_call 137;refine Calls.quiet_of (Ll _ _ _ _ _ _ (HN.out.drewN _)))
   | fail)
  go_wp2_with fail;go_ret;exact ⟨by rw [HT.out];rfl,_,rfl⟩
theorem zPs(L:Lo)(g:Nat)(nv lv:Value)(s:eH)(wh:Int)(w:World)(h:fh w L g nv lv s)(EO:wh=1\/wh = -1) :
  Calls Tryz.prog 135 #[.pointer (some ⟨g,0,none⟩),.int .i64 wh] w fun e w'=>e=.returned (.tuple #[.int .i64 ((gp s wh).getD 0),.bool (gp s wh).isSome])/\∃ m,w'=w.drewN m:=by
 obtain ⟨na,jh,oq⟩:=fJ h.ns;subst oq;obtain ⟨c0,c1,c2,c3,c4⟩:=mG h.blk;have hf:=h.few.1;have HN:=eC h;have HI:=eC (mz.iY h.ns);have hgl:=h.blk.lt;have HP:=eC (Ll L g _ lv s w h);clear h;have hpc:=zRw s;obtain ⟨p,hp⟩:∃ q,q=sG s:=⟨_,rfl⟩;have HPP:=eC hp;rw [<-hp] at HP hpc;have hpb:-1<=p/\p<1000001:=by
  rcases hpc with e | ⟨k,e,_,e2⟩ <;> omega
 clear hp;go_enter Tryz.func135,Tryz.ntmps135;go_wp2_with fail;refine HP.out.mono ?_;rintro e w1 ⟨rfl,m1,rfl⟩;have sL:=eC (MC L g _ lv s (w.drewN m1) (HN.out.drewN m1));have Xl:g<(w.drewN m1).heap.size:=hgl;have Gq:oD s=decide (0<=p):=by rw [oD,<-HPP.out]
 rw [Gq] at sL;by_cases h0:0<=p
 ·have hd0:decide (0<=p)=true:=aQ h0;rw [hd0] at sL;have HB:Hid (gp s wh=if decide (0<=p+wh) && decide (p+wh<(s.nodes.length:Int)) then s.nodes[(p+wh).toNat]? else none):=by
   rw [Hid,gp,Gq,hd0,<-HPP.out,Bool.true_and]
  by_cases h1:0<=p+wh
  ·by_cases h2:p+wh<(s.nodes.length:Int)
   ·obtain ⟨kk,hkk⟩:∃ kk:Nat,p+wh=kk:=⟨(p+wh).toNat,by omega⟩;rw [hkk] at HB h1 h2;obtain ⟨y,hy⟩:∃ y,s.nodes[kk]?=some y:=⟨_,aA (by omega)⟩;have qJ:Hid (gp s wh=some y):=by
     rw [Hid,HB.out,aQ h1,aQ h2];simpa using hy
    obtain ⟨a',cap',ha',hc1,hc2,hcl⟩:=HI.out;simp only [Value.slice.injEq] at ha';obtain ⟨rfl,_,rfl⟩:=ha';rcases hcl with e | ⟨b,off,rfl,hcl⟩
    ·rw [e] at hy;simp at hy
    have q0:=hcl kk y hy;have hd1:decide ((kk:Int)<0)=false:=aP (by omega);have hd2:decide ((kk:Int) ≥ (s.nodes.length:Int))=false:=aP (by omega);have hd3:decide ((s.nodes.length:Int)<=(kk:Int))=false:=aP (by omega);have hwr:IntKind.i64.wrap (p+wh)=(kk:Int):=by rw [IntKind.wrap_i64];omega
    have Mk:wrap64 (p+wh)=(kk:Int):=by rw [hkk];unfold wrap64;omega
    clear hcl hy HB HP HN;go_wp2_with fail;refine sL.out.mono ?_;rintro e w2 ⟨rfl,m2,rfl⟩;go_wp2_with fail;refine bodyPost_ret (results_tmp2 rfl _ _ _) rfl ⟨?_,m1+m2,rfl⟩;rw [qJ.out];rfl
   ·have qJ:Hid (gp s wh=none):=by
     rw [Hid,HB.out,aP h2,Bool.and_false];rfl
    obtain ⟨kk,hkk⟩:∃ kk:Nat,p+wh=kk:=⟨(p+wh).toNat,by omega⟩;rw [hkk] at h1 h2;have hd1:decide ((kk:Int)<0)=false:=aP (by omega);have hd2:decide ((kk:Int) ≥ (s.nodes.length:Int))=true:=aQ (by omega);have hd3:decide ((s.nodes.length:Int)<=(kk:Int))=true:=aQ (by omega);have Mk:wrap64 (p+wh)=(kk:Int):=by rw [hkk];unfold wrap64;omega
    clear HB HP HN;go_wp2_with fail;refine sL.out.mono ?_;rintro e w2 ⟨rfl,m2,rfl⟩;go_wp2_with fail;refine bodyPost_ret (results_tmp2 rfl _ _ _) rfl ⟨?_,m1+m2,rfl⟩;rw [qJ.out];rfl
  ·have qJ:Hid (gp s wh=none):=by
    rw [Hid,HB.out,aP h1,dH];rfl
   have hd1:decide (p+wh<0)=true:=aQ (by omega);have Mk:wrap64 (p+wh)=p+wh:=by unfold wrap64;omega
   clear HB HP HN;go_wp2_with fail;refine sL.out.mono ?_;rintro e w2 ⟨rfl,m2,rfl⟩;go_wp2_with fail;refine bodyPost_ret (results_tmp2 rfl _ _ _) rfl ⟨?_,m1+m2,rfl⟩;rw [qJ.out];rfl
 ·have hd0:decide (0<=p)=false:=aP h0;rw [hd0] at sL;have qJ:Hid (gp s wh=none):=by
   rw [Hid,gp,Gq,hd0,dH];rfl
  clear HP HN;go_wp2_with fail;refine sL.out.mono ?_;rintro e w2 ⟨rfl,m2,rfl⟩;go_wp2_with fail;refine bodyPost_ret (results_tmp2 rfl _ _ _) rfl ⟨?_,m1+m2,rfl⟩;rw [qJ.out];rfl
def mO(s:eH)(wh x:Int):Bool:=match gp s wh with
 | none=>false
 | some y=>y == x
theorem Aj(L:Lo)(g:Nat)(nv lv:Value)(s:eH)(wh x:Int)(w:World)(h:fh w L g nv lv s)(EO:wh=1\/wh = -1) :
  Calls Tryz.prog 99 #[.pointer (some ⟨g,0,none⟩),.int .i64 wh,.int .i64 x] w fun e w'=>e=.returned (.bool (mO s wh x))/\∃ m,w'=w.drewN m:=by
 have HP:=eC (zPs L g nv lv s wh w h EO);clear h EO;go_enter Tryz.func99,Tryz.ntmps99
 cases hn:gp s wh with
 | none=>
  rw [hn] at HP;have HB:Hid (mO s wh x=false):=by rw [Hid,mO,hn]
  go_wp2_with fail;refine HP.out.mono ?_;rintro e w1 ⟨rfl,m1,rfl⟩;simp only [Option.getD_none,Option.isSome_none];go_wp2_with fail;go_ret;exact ⟨by rw [HB.out];rfl,m1,rfl⟩
 | some y=>
  rw [hn] at HP;have HB:Hid (mO s wh x=(y == x)):=by rw [Hid,mO,hn]
  go_wp2_with fail;refine HP.out.mono ?_;rintro e w1 ⟨rfl,m1,rfl⟩;simp only [dK,Option.isSome_some];go_wp2_with fail;go_ret;exact ⟨by rw [HB.out];rfl,m1,rfl⟩
theorem QQ(L:Lo)(g:Nat)(nv lv:Value)(s:eH)(w:World)(h:fh w L g nv lv s) :
  Calls Tryz.prog 102 #[.pointer (some ⟨g,0,none⟩)] w fun e w'=>e=.returned (.bool (decide (s.log.length<500)))/\w'=w:=by
 obtain ⟨la,fG,hlv⟩:=h.lg.slice;subst hlv;obtain ⟨c0,c1,c2,c3,c4⟩:=mG h.blk;have hf:=h.few.2;have hd:decide ((s.log.length:Int)<500)=decide (s.log.length<500):=decide_eq_decide.2 (by omega);clear h;go_enter Tryz.func102,Tryz.ntmps102;go_wp2_with fail;go_ret;exact ⟨rfl,rfl⟩
theorem Sw(L:Lo)(g:Nat)(nv lv:Value)(s:eH)(w:World)(h:fh w L g nv lv s) :
  Calls Tryz.prog 79 #[.pointer (some ⟨g,0,none⟩)] w fun e w'=>e=.returned (.int .i64 s.log.length)/\w'=w:=by
 obtain ⟨la,fG,hlv⟩:=h.lg.slice;subst hlv;obtain ⟨c0,c1,c2,c3,c4⟩:=mG h.blk;clear h;go_enter Tryz.func79,Tryz.ntmps79;go_wp2_with fail;go_ret;exact ⟨rfl,rfl⟩
theorem VM(L:Lo)(g:Nat)(nv lv:Value)(s:eH)(w:World)(h:fh w L g nv lv s) :
  Calls Tryz.prog 98 #[.pointer (some ⟨g,0,none⟩)] w fun e w'=>e=.returned (.int .i64 s.id)/\w'=w:=by
 obtain ⟨c0,c1,c2,c3,c4⟩:=mG h.blk;clear h;go_enter Tryz.func98,Tryz.ntmps98;go_wp2_with fail;go_ret;exact ⟨rfl,rfl⟩
theorem yKd(L:Lo)(g:Nat)(nv lv:Value)(s:eH)(w:World)(h:fh w L g nv lv s) :
  Calls Tryz.prog 106 #[.pointer (some ⟨g,0,none⟩)] w fun e w'=>e=.returned (.int .i64 s.db)/\w'=w:=by
 obtain ⟨c0,c1,c2,c3,c4⟩:=mG h.blk;clear h;go_enter Tryz.func106,Tryz.ntmps106;go_wp2_with fail;go_ret;exact ⟨rfl,rfl⟩
theorem yRv(L:Lo)(id:Int)(w:World)(hid:gw id)(hL:L.n<=w.heap.size)(hx:∀ k,L.x k->k<w.heap.size) :
  Calls Tryz.prog 87 #[.int .i64 id] w fun e w'=>e=.returned (.pointer (some ⟨w.heap.size,0,none⟩))/\fh w' L w.heap.size (.slice none 0 0) (.slice none 0 0) ⟨id,0,[],[],0⟩/\Mod dZ w w':=by
 go_enter Tryz.func87,Tryz.ntmps87;go_wp2_with fail;go_ret;exact ⟨rfl,⟨dh.new w _ _,hL,World.ownsRow_nil _ _ _ _,gU.nil _ _,⟨hid,by simp [gw],by simp⟩,by simp,by simp,fun k hk=>by have:=hx k hk;rw [World.size_alloc];omega⟩,(Mod.refl _ w).alloc _⟩
def xD(w:World)(N:Nat)(u0 u1 u2 u3:Value):World:=(((w.setCell ⟨N,0,none⟩ u0).setCell ⟨N,1,none⟩ u1).setCell ⟨N,2,none⟩ u2).setCell ⟨N,3,none⟩ u3
theorem yPx{w:World}{N:Nat}{a0 a1 a2 a3:Value}{t:TypeId}(hB:dh w N [a0,a1,a2,a3] t)(u0 u1 u2 u3:Value):dh (xD w N u0 u1 u2 u3) N [u0,u1,u2,u3] t:=(((hB.set 0 _).set 1 _).set 2 _).set 3 _
theorem Tr(w:World)(N:Nat)(u0 u1 u2 u3:Value):Mod (eF N) w (xD w N u0 u1 u2 u3):=(((Mod.dq N 0 u0).trans (Mod.dq N 1 u1)).trans (Mod.dq N 2 u2)).trans (Mod.dq N 3 u3)
theorem Bo{w:World}{N:Nat}{a0 a1 a2 a3:Value}{t:TypeId}(hB:dh w N [a0,a1,a2,a3] t)(u0 u1 u2 u3:Value):(loadVar 65 ⟨N,0,none⟩).run Tryz.prog (xD w N u0 u1 u2 u3)=.ok (.agg #[u0,u1,u2,u3]) (xD w N u0 u1 u2 u3):=yGy (yPx hB u0 u1 u2 u3)
theorem TG(L:Lo)(c:dt)(u:Value)(w:World)(hu:iE w L u c.writes)(hl:c.writes.length<=1000000) :
  Calls Tryz.prog 72 #[.agg #[.int .i64 c.kind,.int .i64 c.tx,.int .i64 c.time,u]] w fun e w'=>
   ∃ u',e=.returned (.agg #[.int .i64 c.kind,.int .i64 c.tx,.int .i64 c.time,u'])/\w'.ownsRow w.heap.size 68 3 u' c.writes.length (c.writes.flatMap nw)/\Mod dZ w w':=by
 obtain ⟨i0,hi,hz0,hz1,hz2⟩:=info_parts Tryz.yz;have hu0:=hu;obtain ⟨a,cap,rfl,hpc,hcm,_⟩:=hu0;go_enter Tryz.func72,Tryz.ntmps72;by_cases h0:c.writes=[]
 ·have h00:c.writes.length=0:=by rw [h0];rfl
  rw [h00];have HF:Hid (c.writes.flatMap nw=[]):=by rw [Hid,h0];rfl
  go_wp2_with (first
   | (at_builtin;refine zIl rfl _ _ rfl rfl _ _ rfl ?_)
   | fail)
  have hb:dh ((w.alloc (.cells #[.int .i64 c.kind,.int .i64 c.tx,.int .i64 c.time,.slice none 0 0] 65)).alloc (.cells #[.int .i64 c.kind,.int .i64 c.tx,.int .i64 c.time,.slice none 0 0] 65)) (w.heap.size+1) [.int .i64 c.kind,.int .i64 c.tx,.int .i64 c.time,.slice none 0 0] 65:=by
   have:=dh.new (w.alloc (.cells #[.int .i64 c.kind,.int .i64 c.tx,.int .i64 c.time,.slice none 0 0] 65)) [.int .i64 c.kind,.int .i64 c.tx,.int .i64 c.time,.slice none 0 0] 65;rw [World.size_alloc] at this;exact this
  refine bodyPost_ret (QM Tryz.results72 _ ⟨w.heap.size+1,0,none⟩ rfl (yGy hb)) rfl ⟨.slice none 0 0,rfl,?_,((Mod.refl _ w).alloc _).alloc _⟩;rw [HF.out];exact World.ownsRow_nil _ _ _ _
 ·obtain ⟨b,off,rfl,hcl⟩:=hu.cells h0;have lQ:Mod dZ w ((w.alloc (.cells #[.int .i64 c.kind,.int .i64 c.tx,.int .i64 c.time,.slice (some ⟨b,off,none⟩) c.writes.length cap] 65)).alloc (.cells #[.int .i64 0,.int .i64 0,.int .i64 0,.slice none 0 0] 65)):=((Mod.refl _ w).alloc _).alloc _;have qt:Hid (∀ (j:Nat) u,(c.writes.flatMap nw)[j]?=some u->((w.alloc (.cells #[.int .i64 c.kind,.int .i64 c.tx,.int .i64 c.time,.slice (some ⟨b,off,none⟩) c.writes.length cap] 65)).alloc (.cells #[.int .i64 0,.int .i64 0,.int .i64 0,.slice none 0 0] 65)).cell? ((⟨b,off,none⟩:Addr).add j)=some u):=fun j u Nh=>lQ.cell (hcl j u Nh) id;have AX:=eC (Ur c.writes);have sJ:=eC (zPn c.writes);have iF:0+c.writes.length<=maxLen:=by unfold maxLen;omega
  have iG:(0+c.writes.length)*40<=140737488355328:=by omega
  clear hcl hu;go_wp2_with (first
   | (at_builtin;refine wpList_append_own _ rfl _ _ 63 rfl (w.heap.size+1+1) 68 i0 _ 3 40 Tryz.underlying63 hi hz0 hz1 hz2 rfl (by omega) _ _ _ rfl (World.ownsRow_nil _ _ _ _) ⟨b,off,none⟩ _ _ (c.writes.flatMap nw) rfl AX.out qt.out sJ.out iF iG (by simp) ?_)
   | fail)
  intro v' w1 hown1 hgrow _;have di:=(Mod.refl dZ _).grown hgrow (fun x hx _=>by simp [Value.ownBlock] at hx);have fi:=((dh.new w [.int .i64 c.kind,.int .i64 c.tx,.int .i64 c.time,.slice (some ⟨b,off,none⟩) c.writes.length cap] 65).mod ((Mod.refl dZ _).alloc (.cells #[.int .i64 0,.int .i64 0,.int .i64 0,.slice none 0 0] 65)) id).mod di id;have gm:=(dh.new (w.alloc (.cells #[.int .i64 c.kind,.int .i64 c.tx,.int .i64 c.time,.slice (some ⟨b,off,none⟩) c.writes.length cap] 65)) [.int .i64 0,.int .i64 0,.int .i64 0,.slice none 0 0] 65).mod di id;rw [World.size_alloc] at gm;have py:=lQ.trans di;obtain ⟨x0,x1,x2,x3,y0,y1,y2,y3⟩:=tD fi;obtain ⟨p0,p1,p2,p3,q0,q1,q2,q3⟩:=tD gm;obtain ⟨va,vc,rfl⟩:=fJ hown1;have HO:=eC hown1;clear hown1 hgrow di qt AX sJ lQ;go_wp2_with fail;have hB2':=gm.mod (Mod.dq (w:=w1) w.heap.size 3 (.slice va c.writes.length vc)) (by simp [eF]);have YU:w1.ownsRow (w.heap.size+1+1) 68 3 (.slice va c.writes.length vc) c.writes.length (c.writes.flatMap nw):=by simpa using HO.out
  refine bodyPost_ret (QM Tryz.results72 _ ⟨w.heap.size+1,0,none⟩ rfl (Bo hB2' _ _ _ _)) rfl ⟨.slice va c.writes.length vc,rfl,?_,?_⟩
  ·refine uP (gD (G:=eF (w.heap.size+1)) (gD (G:=eF w.heap.size) YU (Mod.dq _ 3 _) (fun k hk _ _ e=>by simp only [eF] at e;omega)) (Tr _ _ _ _ _ _) (fun k hk _ _ e=>by simp only [eF] at e;omega)) (by omega)
  ·have h1:Mod (jU w.heap.size) w (w1.setCell ⟨w.heap.size,3,none⟩ (.slice va c.writes.length vc)):=Mod.put (py.mono (fun _ _ e=>e.elim)) _ _ (aF _) _;have h2:=h1.trans ((Tr (w1.setCell ⟨w.heap.size,3,none⟩ (.slice va c.writes.length vc)) (w.heap.size+1) (.int .i64 c.kind) (.int .i64 c.tx) (.int .i64 c.time) (.slice va c.writes.length vc)).mono (G':=jU w.heap.size) (fun i _ e=>by simp only [eF,jU] at e ⊢;omega));exact h2.mono (fun i hi e=>by simp only [jU] at e;omega)
theorem eX.one{w:World}{L:Lo}(m:dp)(u:Value)(hL:L<=w.heap.size)(hu:iE w L u m.cmd.writes)(hg:qW m) :
  eX (w.alloc (.cells #[.int .i64 m.kind,.int .i64 m.eI,.int .i64 m.to,.int .i64 m.db,.int .i64 m.n,.int .i64 m.cmd.kind,.int .i64 m.cmd.tx,.int .i64 m.cmd.time,u] 112)) L (.slice (some ⟨w.heap.size,0,none⟩) 1 1) [m]:=by
 refine ⟨[u],rfl,⟨rfl,.inr ⟨w.heap.size,1,_,rfl,hL,heap_alloc_new w _,aF _,by unfold maxLen;omega,rfl,rfl⟩⟩,fun i m' u' hi hu'=>?_,fun m' hm'=>?_⟩
 ·have e:i=0:=by
   cases i with
   | zero=>rfl
   | succ i=>simp at hi
  subst e;simp at hi hu';subst hi hu';exact hu.mod ((Mod.refl dZ w).alloc _) (Qm.none _ _)
 ·simp at hm';subst hm';exact hg
def kY(s:eH)(wh:Int)(m:dp):List dp:=match gp s wh with
 | none=>[]
 | some t=>[⟨m.kind,s.id,t,s.db,m.n,m.cmd⟩]
theorem QK{s:eH}{wh t:Int}(h:gp s wh=some t):t∈s.nodes:=by
 unfold gp at h;split at h
 ·exact aC h
 ·cases h
def lE(w:World)(v:Value):Prop:=∀ k,v.ownBlock=some k->w.heap.size<=k
theorem Lc(L:Lo)(g:Nat)(nv lv:Value)(s:eH)(wh:Int)(m:dp)(u:Value)(w:World)(h:fh w L g nv lv s)(EO:wh=1\/wh = -1)(hu:iE w L u m.cmd.writes)(jB:gw m.kind/\gw m.n/\Bg m.cmd) :
  Calls Tryz.prog 100 #[.pointer (some ⟨g,0,none⟩),.int .i64 wh,.agg #[.int .i64 m.kind,.int .i64 m.eI,.int .i64 m.to,.int .i64 m.db,.int .i64 m.n,.int .i64 m.cmd.kind,.int .i64 m.cmd.tx,.int .i64 m.cmd.time,u]] w fun e w'=>
   ∃ v,e=.returned v/\eX w' L v (kY s wh m)/\lE w v/\Mod dZ w w':=by
 obtain ⟨ua,dj,rfl⟩:∃ ua dj,u=.slice ua m.cmd.writes.length dj:=by obtain ⟨ua,dj,h,_⟩:=hu;exact ⟨ua,dj,h⟩
 obtain ⟨w1,hw1⟩:∃ q,q=w.alloc (.cells #[.int .i64 m.kind,.int .i64 m.eI,.int .i64 m.to,.int .i64 m.db,.int .i64 m.n,.int .i64 m.cmd.kind,.int .i64 m.cmd.tx,.int .i64 m.cmd.time,.slice ua m.cmd.writes.length dj] 112):=⟨_,rfl⟩;have di:Mod dZ w w1:=by rw [hw1];exact (Mod.refl _ w).alloc _
 have fi:dh w1 w.heap.size (iW m (.slice ua m.cmd.writes.length dj)) 112:=by rw [hw1];exact dh.new w _ _
 have h1:=h.quiet di;have hgl:=h.blk.lt;have jy:=h.low;have HN:=eC (zPs L g nv lv s wh w1 h1 EO);have IQ:=eC h.ints;have HU:=eC (hu.mod di (Qm.none _ _));clear h hu;go_enter Tryz.func100,Tryz.ntmps100;go_upto_region 1 with fail;rw [<-hw1];clear hw1;go_wp2_with fail;refine HN.out.mono ?_;rintro e w2 ⟨rfl,m1,rfl⟩
 cases hn:gp s wh with
 | none=>
  have HS:Hid (kY s wh m=[]):=by rw [Hid,kY,hn]
  simp only [Option.getD_none,Option.isSome_none];clear HN;go_wp2_with fail;go_ret;exact ⟨_,rfl,by rw [HS.out];exact eX.nil _ _,fun k hk=>by simp [Value.ownBlock] at hk,di.drewN _⟩
 | some t=>
  have HS:Hid (kY s wh m=[⟨m.kind,s.id,t,s.db,m.n,m.cmd⟩]):=by rw [Hid,kY,hn]
  have ht:gw t:=IQ.out.2.2 t (QK hn);simp only [dK,Option.isSome_some];obtain ⟨c0,c1,c2,c3,c4⟩:=mG h1.blk;obtain ⟨⟨x0,x1,x2,x3,x4,x5,x6,x7,x8⟩,⟨y0,y1,y2,y3,y4,y5,y6,y7,y8⟩⟩:=iH fi;have hz1:=fi.lt;have hgz1:g<w1.heap.size:=h1.blk.lt;clear HN h1;go_upto_region 4 with fail;go_region
  all_goals go_wp2_with fail
  go_ret;obtain ⟨w5,rE⟩:∃ q,q=(((w1.drewN (m1+1)).setCell ⟨w.heap.size,1,none⟩ (.int .i64 s.id)).setCell ⟨w.heap.size,2,none⟩ (.int .i64 t)).setCell ⟨w.heap.size,3,none⟩ (.int .i64 s.db):=⟨_,rfl⟩;have GN:w5.heap.size=w1.heap.size:=by rw [rE];simp
  have zU:Mod (eF w.heap.size) w1 w5:=by
   rw [rE];exact ((((Mod.refl (eF w.heap.size) w1).drewN (m1+1)).trans (Mod.dq _ 1 _)).trans (Mod.dq _ 2 _)).trans (Mod.dq _ 3 _)
  have hq:Qm w1 L (eF w.heap.size):=fun k _ e=>by
   simp only [eF] at e;subst e;have hb:=fi;simp only [dh] at hb;rintro (e | ⟨⟨cur,fr,e⟩,_⟩)
   ·omega
   ·rw [hb] at e;simp at e
  have eu:Mod dZ w w5:=di.trans' zU (fun i hi e=>by simp only [eF] at e;omega);rw [<-rE,<-GN];have DC:L<=w5.heap.size:=by omega
  refine ⟨_,rfl,?_,fun k hk=>?_,eu.alloc _⟩
  ·rw [HS.out];exact eX.one ⟨m.kind,s.id,t,s.db,m.n,m.cmd⟩ _ DC (HU.out.mod zU hq) ⟨⟨jB.1,IQ.out.1,ht,IQ.out.2.1,jB.2.1,jB.2.2.1⟩,jB.2.2.2⟩
  ·have e:w5.heap.size=k:=by simpa [Value.ownBlock] using hk
   omega
def pG(kind n:Int):dp:=⟨kind,0,0,0,n,rT⟩
def yb(s:eH)(n:Int):eH:=⟨s.id,s.db,s.nodes,s.log,n⟩
def kK(s:eH):eH × List dp:=if te s then (yb s s.log.length,kY (yb s s.log.length) (-1) (pG 4 s.log.length)) else (s,kY s 1 (pG 1 s.log.length))
theorem Qi(kind n:Int)(hk:gw kind)(hn:gw n):gw (pG kind n).kind/\gw (pG kind n).n/\Bg (pG kind n).cmd:=by
 refine ⟨hk,hn,⟨?_,?_,?_⟩,?_⟩ <;> simp [pG,rT,gw]
theorem fh.vl{w:World}{L:Lo}{g:Nat}{nv lv:Value}{s:eH}(h:fh w L g nv lv s)(n:Int)(hn:0<=n/\n<=s.log.length) :
  fh (w.setCell ⟨g,4,none⟩ (.int .i64 n)) L g nv lv (yb s n)/\Mod (eF g) w (w.setCell ⟨g,4,none⟩ (.int .i64 n)):=by
 obtain ⟨a1,a2,_⟩:=h.apart;have hm:Mod (eF g) w (w.setCell ⟨g,4,none⟩ (.int .i64 n)):=Mod.dq g 4 _;have hq:Qm w L (eF g):=Qm.vn h (fun k _ e=>.inl e);exact ⟨⟨h.blk.set 4 _,h.low,gD h.ns hm (fun k _ _ hk e=>a1 (by rw [hk];rw [e])),h.lg.mod hm hq (fun k hk e=>a2 (by rw [hk];rw [e])),h.ints,h.few,hn,fun k hk=>aG (h.xb k hk) hm.size⟩,hm⟩
theorem Ld(L:Lo)(g:Nat)(nv lv:Value)(s:eH)(w:World)(h:fh w L g nv lv s) :
  Calls Tryz.prog 59 #[.pointer (some ⟨g,0,none⟩)] w fun e w'=>∃ v,e=.returned v/\fh w' L g nv lv (kK s).1/\eX w' L v (kK s).2/\lE w v/\Mod (eF g) w w':=by
 obtain ⟨la,fG,hlv⟩:=h.lg.slice;subst hlv;have HT:=eC (yGk L g nv _ s w h);have jy:=h.low;have fW:=h.few;go_enter Tryz.func59,Tryz.ntmps59;go_wp2_with fail;refine HT.out.mono ?_;rintro e w1 ⟨rfl,m1,rfl⟩;have h1:=h.drewN m1;have hmz:Mod dZ w (w.drewN m1):=(Mod.refl _ w).drewN m1;obtain ⟨c0,c1,c2,c3,c4⟩:=mG h1.blk;have f4:=h1.blk.frozen 4;have ur:=h1.blk.lt;clear HT h
 cases ht:te s with
 | false=>
  have HK:Hid (kK s=(s,kY s 1 (pG 1 s.log.length))):=by rw [Hid,kK,ht];rfl
  have HS:=eC (Lc L g nv _ s 1 (pG 1 s.log.length) (.slice none 0 0) (w.drewN m1) h1 (.inl rfl) (iE.nil _ _) (Qi _ _ (by simp [gw]) (by simp only [gw];omega)));have HN:=eC h1;clear h1;go_wp2_with fail;refine HS.out.mono ?_;rintro e w2 ⟨v,rfl,hR,uE,hm2⟩;clear HS;go_wp2_with fail;go_ret;exact ⟨v,rfl,by rw [HK.out];exact HN.out.quiet hm2,by rw [HK.out];exact hR,uE,(hmz.trans hm2).mono (fun _ _ e=>e.elim)⟩
 | true=>
  have HK:Hid (kK s=(yb s s.log.length,kY (yb s s.log.length) (-1) (pG 4 s.log.length))):=by rw [Hid,kK,ht];rfl
  obtain ⟨lP,hm2⟩:=h1.vl s.log.length (by omega);have d4:=lP.blk.cell 4 rfl;have HS:=eC (Lc L g nv _ (yb s s.log.length) (-1) (pG 4 s.log.length) (.slice none 0 0) _ lP (.inr rfl) (iE.nil _ _) (Qi _ _ (by simp [gw]) (by simp only [gw];omega)));have HN:=eC lP;have HM:=eC hm2;simp only [yb] at d4;clear h1 lP hm2;go_wp2_with fail;refine HS.out.mono ?_;rintro e w3 ⟨v,rfl,hR,uE,dz⟩;clear HS;go_wp2_with fail;go_ret;refine ⟨v,rfl,by rw [HK.out];exact HN.out.quiet dz,by rw [HK.out];exact hR,fun k hk=>?_,((hmz.mono (fun _ _ e=>e.elim)).trans HM.out).trans (dz.mono (fun _ _ e=>e.elim))⟩;have:=uE k hk;simpa using this
theorem eX.snoc{w w6:World}{L:Lo}{v v6 u:Value}{ms:List dp}{m:dp}{us:List Value}(lu:us.length=ms.length)(hrow:w.ownsRow L 112 9 v ms.length (gy ms us))
  (hps:∀ (i:Nat) m u,ms[i]?=some m->us[i]?=some u->iE w L u m.cmd.writes) (hgd:∀ m∈ms,qW m) (hu:iE w L u m.cmd.writes) (jB:qW m)
  (fq:Mod (fun k=>v.ownBlock=some k) w w6) (iB:w6.ownsRow L 112 9 v6 (ms.length+1) (gy ms us++iW m u)):eX w6 L v6 (ms++[m]):=by
 have BI:=Qm.row hrow (aF _) (by decide);refine ⟨us++[u],by simp [lu],by rw [Qx _ _ _ _ lu];simpa using iB,fun i m' u' hi hu'=>?_,fun m' hm'=>?_⟩
 ·by_cases hlt:i<ms.length
  ·rw [aI hlt] at hi;rw [aI (by omega)] at hu';exact (hps i m' u' hi hu').mod fq BI
  ·have hi':i=ms.length:=by
    rcases dM i (ms.length+1) with h' | h'
    ·omega
    ·rw [aj (by simpa using h')] at hi;cases hi
   subst hi';rw [aO (aF _)] at hi;rw [aO (by omega)] at hu';simp [lu] at hi hu';subst hi hu';exact hu.mod fq BI
 ·rcases aL.1 hm' with e | e
  ·exact hgd m' e
  ·simp at e;subst e;exact jB
theorem gU.snoc{w w6:World}{L:Lo}{v v6 u:Value}{ms:List dt}{m:dt}{us:List Value}(lu:us.length=ms.length)(hrow:w.ownsRow L 65 4 v ms.length (ye ms us))
  (hps:∀ (i:Nat) m u,ms[i]?=some m->us[i]?=some u->iE w L u m.writes) (hgd:∀ m∈ms,Bg m) (hu:iE w L u m.writes) (jB:Bg m)
  (fq:Mod (fun k=>v.ownBlock=some k) w w6) (iB:w6.ownsRow L 65 4 v6 (ms.length+1) (ye ms us++vh m u)):gU w6 L v6 (ms++[m]):=by
 have BI:=Qm.row hrow (aF _) (by decide);refine ⟨us++[u],by simp [lu],by rw [zPv _ _ _ _ lu];simpa using iB,fun i m' u' hi hu'=>?_,fun m' hm'=>?_⟩
 ·by_cases hlt:i<ms.length
  ·rw [aI hlt] at hi;rw [aI (by omega)] at hu';exact (hps i m' u' hi hu').mod fq BI
  ·have hi':i=ms.length:=by
    rcases dM i (ms.length+1) with h' | h'
    ·omega
    ·rw [aj (by simpa using h')] at hi;cases hi
   subst hi';rw [aO (aF _)] at hi;rw [aO (by omega)] at hu';simp [lu] at hi hu';subst hi hu';exact hu.mod fq BI
 ·rcases aL.1 hm' with e | e
  ·exact hgd m' e
  ·simp at e;subst e;exact jB
def nR(s:eH)(t:Int)(k:Nat)(c:dt):dp:=⟨3,s.id,t,s.db,k,c⟩
def ke(s:eH)(t:Int)(f n:Nat):List dp:=(List.range n).map (fun j=>nR s t (f+j) (s.log.getD (f+j) rT))
theorem yNl(s:eH)(t:Int)(f n:Nat)(c:dt)(hc:s.log[f+n]?=some c):ke s t f (n+1)=ke s t f n++[nR s t (f+n) c]:=by
 unfold ke;rw [aY,ao,List.map_singleton,aH,hc];rfl
theorem yRg(s:eH)(t:Int)(f n:Nat):(ke s t f n).length=n:=by simp [ke]
theorem zUo(L:Lo)(g:Nat)(nv lv:Value)(s:eH)(t:Int)(f:Int)(w:World)(h:fh w L g nv lv s)(hn:gp s 1=some t)(hf:0<=f) :
  Calls Tryz.prog 101 #[.pointer (some ⟨g,0,none⟩),.int .i64 f] w fun e w'=>∃ v,e=.returned v/\eX w' L v (ke s t f.toNat (s.log.length - f.toNat))/\lE w v/\Mod dZ w w':=by
 obtain ⟨i0,hi,hz0,hz1,hz2⟩:=info_parts Tryz.pK;obtain ⟨fn,rfl⟩:∃ fn:Nat,f=fn:=⟨f.toNat,by omega⟩;rw [aS];obtain ⟨la,fG,hlv⟩:=h.lg.slice;subst hlv;have fW:=h.few.2;have jy:=h.low;have Kz:Hid (∀ k,gx g nv (.slice la s.log.length fG) k->k<w.heap.size):=fun k hk=>(h.lt hk).2.1;go_enter Tryz.func101,Tryz.ntmps101;go_wp2_with fail;go_loopw [5,6] (fun v i wr=>∃ j:Nat,j<=s.log.length - fn/\i=.int .i64 ((fn+j:Nat):Int)/\fh wr L g nv (.slice la s.log.length fG) s/\eX wr L v (ke s t fn j)/\lE w v/\Mod dZ w wr) (fun _ i _=>s.log.length - (intOf i).toNat)
 case atStart=>exact ⟨0,aV _,rfl,h,eX.nil _ _,fun k hk=>by simp [Value.ownBlock] at hk,Mod.refl _ _⟩
 case round=>
  obtain ⟨j,hj,rfl,hN,hR,uE,hM⟩:=hrel;clear h;obtain ⟨c0,c1,c2,c3,c4⟩:=mG hN.blk;by_cases hlt:fn+j<s.log.length
  ·obtain ⟨c,hc⟩:∃ c,s.log[fn+j]?=some c:=⟨_,aA hlt⟩;obtain ⟨b,xX,u,hv,hb1,hb2,hu,uD,q0,q1,q2,q3⟩:=hN.lg.at hc;simp only [Value.slice.injEq] at hv;obtain ⟨rfl,_,rfl⟩:=hv;obtain ⟨ua,dj,rfl⟩:∃ ua dj,u=.slice ua c.writes.length dj:=by obtain ⟨ua,dj,h,_⟩:=hu;exact ⟨ua,dj,h⟩
   obtain ⟨kk,hkk⟩:∃ kk:Nat,kk=fn+j:=⟨_,rfl⟩;have kg:=eC (yNl s t fn j c hc);rw [<-hkk] at hlt q0 q1 q2 q3 kg ⊢;have HO:=eC (TG L c (.slice ua c.writes.length dj) wr hu (by have:=uD.2;omega));have kO:(kk:Int)<(s.log.length:Int):=by omega
   have ow:(0:Int)<=(kk:Int):=by omega
   have qI:=eC hkk;clear hu hc hkk;go_wp2_with fail;refine HO.out.mono ?_;rintro e w5 ⟨uo,rfl,iU,eu⟩;obtain ⟨Fe,Fc,rfl⟩:=fJ iU;have hu5:=iE.iY (L:=L) iU (fun k hk=>hN.xb k hk);have mi:=hN.quiet eu;have Ef:=hR.mod eu (Qm.none _ _) (fun _ _=>id);have HS:=eC (Lc L g nv _ s 1 ⟨3,0,0,0,kk,c⟩ (.slice Fe c.writes.length Fc) w5 mi (.inl rfl) hu5 ⟨by simp [gw],by simp only [gw];omega,uD⟩);have wD:=hM.trans eu;clear HO iU hN hR hM q0 q1 q2 q3 c0 c1 c2 c3 c4;go_wp2_with fail;refine HS.out.mono ?_;rintro e w6 ⟨v6,rfl,rH,hfv6,fq⟩;have hs1:kY s 1 ⟨3,0,0,0,kk,c⟩=[nR s t kk c]:=by unfold kY;rw [hn];rfl
   rw [hs1] at rH;obtain ⟨b6,bc6,us6,rf,_,_,BD,Nq,r0,r1,r2,r3,r4,r5,r6,r7,r8⟩:=rH.at (i:=0) (m:=nR s t kk c) rfl;obtain ⟨Vb,Va,rfl⟩:∃ ua dj,us6=.slice ua c.writes.length dj:=by obtain ⟨ua,dj,h,_⟩:=BD;exact ⟨ua,dj,h⟩
   have sv:=mi.quiet fq;have YR:=Ef.mod fq (Qm.none _ _) (fun _ _=>id);have BW:=wD.trans fq;have hz6:=BW.size;have PK:Hid (∀ (i:Nat) x,(iW (nR s t kk c) (.slice Vb c.writes.length Va))[i]?=some x->w6.cell? ((⟨b6,0,none⟩:Addr).add i)=some x):=by
    intro i x hx;rw [Go.WideShapes.add_plain,ah];have hi9:i<9:=(aB.1 hx).1;have hcs:i=0\/i=1\/i=2\/i=3\/i=4\/i=5\/i=6\/i=7\/i=8:=by omega
    simp only [cj,ah] at r0 r1 r2 r3 r4 r5 r6 r7 r8;rcases hcs with rfl | rfl | rfl | rfl | rfl | rfl | rfl | rfl | rfl <;> (simp [iW] at hx;subst hx;assumption)
   obtain ⟨us,lu,hrow,hps,hgd⟩:=YR;have fc:=eC hrow;have qs:=eC hps;have vQ:=eC hgd;have HU:=eC BD;have Sk:=eC Nq;have oH:=eC (yRg s t fn j);rw [oH.out] at fc;have iF:j+1<=maxLen:=by unfold maxLen;omega
   have iG:(j+1)*88<=140737488355328:=by omega
   have Eh:L<=w6.heap.size:=by have:=sv.blk.lt;omega
   simp only [aW,an] at rf;rw [rf];have Se:=eC sv;clear hrow hps hgd HS mi Ef wD rH BD Nq r0 r1 r2 r3 r4 r5 r6 r7 r8 rf sv hs1 hu5 eu fq;go_wp2_with (first
    | (at_builtin;refine wpList_append_own_at _ rfl (.tmp 17) (.tmp 29) 76 rfl L 112 i0 _ 9 88 Tryz.underlying76 hi hz0 hz1 hz2 rfl (by omega) _ _ _ rfl fc.out ⟨b6,0,none⟩ 1 bc6 (iW (nR s t kk c) (.slice Vb c.writes.length Va)) rfl rfl PK.out (VQ _ _ _ _) iF iG Eh ?_)
    | fail)
   intro v7 w7 eQ hgrow _ hloc;have ix:Mod (fun k=>u5.ownBlock=some k) w6 w7:=(Mod.refl _ w6).grown hgrow (fun x hx _=>hx);have rG:=eX.snoc lu (by rw [oH.out];exact fc.out) qs.out vQ.out HU.out Sk.out ix (by rw [oH.out];exact eQ);have hM7:Mod dZ w w7:=BW.trans' ix (fun i hi e=>by have:=uE i e;omega);have uI:=Se.out.mod ix (Qm.row fc.out (aF _) (by decide)) (fun k hk e=>by have:=Kz.out k hk;have:=uE k e;omega);have yJ:lE w v7:=fun k hk=>by
    rcases hloc with e | e
    ·exact uE k (by rw [<-e];exact hk)
    ·rw [e] at hk;simp at hk;omega
   rw [<-kg.out] at rG;have Es:=eC rG;have HN7:=eC uI;clear eQ hgrow hloc fc qs vQ HU Sk PK BW rG uI ix Se;go_wp2_with fail;go_roundw
   case rel=>exact ⟨j+1,by have:=qI.out;omega,by rw [show fn+(j+1)=kk+1 by have:=qI.out;omega];go_num,HN7.out,Es.out,yJ,hM7⟩
   case measure=>simp [intOf];omega
  ·have hd:decide (((fn+j:Nat):Int)<(s.log.length:Int))=false:=aP (by omega);obtain rfl:j=s.log.length - fn:=by omega
   have HR:=eC hR;clear hN hR;go_wp2_with fail;go_ret;exact ⟨_,rfl,HR.out,uE,hM⟩
end Go.Proofs.YtmaiggbnceejiaaGreatDoor
