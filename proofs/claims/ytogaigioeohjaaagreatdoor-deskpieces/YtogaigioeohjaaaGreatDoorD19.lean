import Derived.Test.YtogaigioeohjaaaGreatDoorD18
set_option linter.unusedVariables false
set_option maxRecDepth 100000
set_option maxHeartbeats 16000000
namespace Go.Proofs.YtogaigioeohjaaaGreatDoor
open Go.RowKit Go.Lib Go.Maps
theorem zIy{w:World}{B:Nat}{ty:TypeId}{v:Value}{bs:List Nat}(h:w.ownsRow B ty 1 v bs.length (bs.map ptrV)){k b:Nat}(hk:bs[k]?=some b) :
  ∃ g cap,v=.slice (some ⟨g,0,none⟩) bs.length cap/\w.cell? ⟨g,k,none⟩=some (.pointer (some ⟨b,0,none⟩)):=by
 have hlt:k<bs.length:=(List.getElem?_eq_some_iff.1 hk).1
 rcases h.2 with ⟨e,h0⟩ | ⟨g,cap,cur,e,q1,q2,q3,q4,q5,q6⟩
 ·omega
 ·subst e
  have:=h.cells (g:=g) rfl k (ptrV b) (by simp [hk])
  rw [Go.WideShapes.add_plain,Nat.zero_add] at this
  exact ⟨g,cap,rfl,this⟩
theorem blkH{w:World}{g:Nat}{y:HLay}{lost:Int}{t:TypeId}(h:Blk w g (zIh y lost) t) :
  w.cell? ⟨g,0,none⟩=some y.lv/\w.cell? ⟨g,1,none⟩=some (.map (some y.dr))/\w.cell? ⟨g,2,none⟩=some y.wv/\w.cell? ⟨g,3,none⟩=some (.int .i64 lost)/\w.cell? ⟨g,4,none⟩=some (.map y.mr)/\w.cell? ⟨g,5,none⟩=some (.map y.q.m)/\w.cell? ⟨g,6,none⟩=some y.tv:=
 ⟨h.cell 0 rfl,h.cell 1 rfl,h.cell 2 rfl,h.cell 3 rfl,h.cell 4 rfl,h.cell 5 rfl,h.cell 6 rfl⟩
theorem zAe.lineQ{w:World}{n c g:Nat}{y:HLay}{s:zAa}(h:zAe w n c g y s){k:Nat}(hk:k<s.lines.length):∃ b,y.lbs[k]?=some b/\zTs w n y b (s.line k):=by
 have hl:=h.llen
 refine ⟨y.lbs[k]'(by omega),List.getElem?_eq_getElem (by omega),h.line k _ _ (List.getElem?_eq_getElem (by omega)) ?_⟩
 unfold zAa.line
 rw [List.getD_eq_getElem?_getD,List.getElem?_eq_getElem hk];rfl
theorem zAe.txQ{w:World}{n c g:Nat}{y:HLay}{s:zAa}(h:zAe w n c g y s){id:Nat}(h1:1<=id)(h2:id<=s.txs.length):∃ b,y.tbs[id - 1]?=some b/\TxP w n y b (s.tx id):=by
 have hl:=h.tlen
 refine ⟨y.tbs[id - 1]'(by omega),List.getElem?_eq_getElem (by omega),h.tx (id - 1) _ _ (List.getElem?_eq_getElem (by omega)) ?_⟩
 unfold zAa.tx
 rw [List.getD_eq_getElem?_getD,List.getElem?_eq_getElem (by omega)];rfl
theorem zTs.nodeQ{w:World}{n b:Nat}{y:HLay}{l:zCs}(h:zTs w n y b l){j:Nat}(hj:j<l.nodes.length):∃ c,(y.nbs b)[j]?=some c/\∃ s,l.nodes[j]?=some s/\zQa w n y c s:=by
 have hl:=h.len
 exact ⟨(y.nbs b)[j]'(by omega),List.getElem?_eq_getElem (by omega),l.nodes[j],List.getElem?_eq_getElem hj,h.node j _ _ (List.getElem?_eq_getElem (by omega)) (List.getElem?_eq_getElem hj)⟩
theorem zKk(n c g:Nat)(y:HLay)(s:zAa)(w:World)(h:zAe w n c g y s)(hl:s.lines.length<=1000)(hl1:1<=s.lines.length) :
  Calls Tryz.prog 98 #[.pointer (some ⟨g,0,none⟩)] w fun e w'=>e=.returned (.int .i64 (decH s))/\w'=w:=by
 obtain ⟨c0,-⟩:=blkH h.blk
 obtain ⟨a,cap,hv⟩:=zAg h.lrow
 rw [hv,h.llen] at c0
 have hd:((s.lines.length:Int) - 1)=(decH s:Nat):=by unfold decH;omega
 have HD:=Hmq hd
 clear h hv hd
 go_enter Tryz.func98,Tryz.ntmps98
 go_wp2_with fail
 go_ret
 exact ⟨by rw [<-HD.out];rfl,rfl⟩
theorem zHy(n c g:Nat)(y:HLay)(s:zAa)(id b:Nat)(w:World)(h:zAe w n c g y s)(h1:1<=id)(h2:id<=1000)(hb:y.tbs[id - 1]?=some b) :
  Calls Tryz.prog 72 #[.pointer (some ⟨g,0,none⟩),.int .i64 id] w fun e w'=>e=.returned (.pointer (some ⟨b,0,none⟩))/\w'=w:=by
 obtain ⟨-,-,-,-,-,-,c6⟩:=blkH h.blk
 obtain ⟨tg,cap,hv,ct⟩:=zIy h.trow hb
 rw [hv] at c6
 obtain ⟨i,rfl⟩:∃ i,id=i+1:=⟨id - 1,by omega⟩
 have hlt:i<y.tbs.length:=by have:=(List.getElem?_eq_some_iff.1 hb).1;omega
 rw [Nat.add_sub_cancel] at ct
 have hltI:(i:Int)<(y.tbs.length:Int):=by omega
 have hi0:(0:Int)<=(i:Int):=by omega
 clear h hv hb
 go_enter Tryz.func72,Tryz.ntmps72
 go_wp2_with fail
 go_ret
 exact ⟨rfl,rfl⟩
theorem zVr(n c g:Nat)(y:HLay)(s:zAa)(id:Int)(w:World)(h:zAe w n c g y s)(hl:s.txs.length<=60) :
  Calls Tryz.prog 57 #[.pointer (some ⟨g,0,none⟩),.int .i64 id] w fun e w'=>e=.returned (.int .i64 (zGf s id))/\w'=w:=by
 obtain ⟨-,-,-,-,-,-,c6⟩:=blkH h.blk
 obtain ⟨a,cap,hv⟩:=zAg h.trow
 rw [hv,h.tlen] at c6
 by_cases h1:id<1
 ·have hd:decide (id<1)=true:=decide_eq_true h1
  have HS:Hid (zGf s id=0):=by unfold Hid zGf isTx;rw [decide_eq_false (show ¬ 1<=id by omega)];rfl
  clear h hv
  go_enter Tryz.func57,Tryz.ntmps57
  go_wp2_with fail
  go_ret
  exact ⟨by rw [HS.out];rfl,rfl⟩
 ·have hd:decide (id<1)=false:=decide_eq_false h1
  by_cases h2:id > (s.txs.length:Int)
  ·have hd2:decide (id > (s.txs.length:Int))=true:=decide_eq_true h2
   have HS:Hid (zGf s id=0):=by unfold Hid zGf isTx;rw [decide_eq_false (show ¬ id<=(s.txs.length:Int) by omega),Bool.and_false];rfl
   clear h hv
   go_enter Tryz.func57,Tryz.ntmps57
   go_wp2_with fail
   go_ret
   exact ⟨by rw [HS.out];rfl,rfl⟩
  ·have hd2:decide (id > (s.txs.length:Int))=false:=decide_eq_false h2
   obtain ⟨i,rfl⟩:∃ i:Nat,id=i:=⟨id.toNat,by omega⟩
   obtain ⟨b,hb,ht⟩:=h.txQ (id:=i) (by omega) (by omega)
   have HT:=Hmq (zHy n c g y s i b w h (by omega) (by omega) hb)
   have t0:=ht.blk.cell 0 rfl
   have HS:Hid (zGf s i=(s.tx i).state):=by
    unfold Hid zGf isTx
    rw [decide_eq_true (show (1:Int)<=(i:Int) by omega),decide_eq_true (show (i:Int)<=(s.txs.length:Int) by omega)];rfl
   clear h hv ht hb
   go_enter Tryz.func57,Tryz.ntmps57
   go_wp2_with fail
   refine HT.out.mono ?_
   rintro e w1 ⟨rfl,rfl⟩
   go_wp2_with fail
   go_ret
   exact ⟨by rw [HS.out];rfl,rfl⟩
theorem zCc:errQ 0=.nilIface:=by unfold errQ;rw [if_pos rfl]
theorem zBa{e:Int}(h:e≠0):errQ e=.iface 25 (.int .i64 e):=by unfold errQ;rw [if_neg h]
theorem zSs(n c g:Nat)(y:HLay)(s:zAa)(id:Int)(w:World)(h:zAe w n c g y s)(hl:s.txs.length<=60) :
  Calls Tryz.prog 83 #[.pointer (some ⟨g,0,none⟩),.int .i64 id] w fun e w'=>e=.returned (errQ (zHx s id))/\w'=w:=by
 have HS:=Hmq (zVr n c g y s id w h hl)
 have hmk:=zMd
 clear h
 go_enter Tryz.func83,Tryz.ntmps83
 go_wp2_with fail
 refine HS.out.mono ?_
 rintro e w1 ⟨rfl,rfl⟩
 by_cases h0:zGf s id=0
 ·rw [h0]
  have HO:Hid (errQ (zHx s id)=.iface 25 (.int .i64 7)):=by unfold Hid zHx;rw [if_pos h0];exact zBa (by omega)
  go_wp2_with fail
  go_ret
  exact ⟨by rw [HO.out];rfl,rfl⟩
 ·by_cases h1:zGf s id=1
  ·rw [h1]
   have HO:Hid (errQ (zHx s id)=.nilIface):=by unfold Hid zHx;rw [if_neg h0,if_pos h1];exact zCc
   go_wp2_with fail
   go_ret
   exact ⟨by rw [HO.out];rfl,rfl⟩
  ·have HO:Hid (errQ (zHx s id)=.iface 25 (.int .i64 6)):=by unfold Hid zHx;rw [if_neg h0,if_neg h1];exact zBa (by omega)
   have e0:(zGf s id == 0)=false:=by simpa using h0
   have e1:(zGf s id == 1)=false:=by simpa using h1
   go_wp2_with fail
   go_ret
   exact ⟨by rw [HO.out];rfl,rfl⟩
theorem yAq(n c g:Nat)(y:HLay)(s:zAa)(b:Nat)(ns:zAl)(w:World)(h:zAe w n c g y s)(hn:zQa w n y b ns) :
  Calls Tryz.prog 108 #[.pointer (some ⟨g,0,none⟩),.pointer (some ⟨b,0,none⟩)] w fun e w'=>e=.returned (.bool (zAu s ns))/\Mod zAb w w':=by
 obtain ⟨-,c1,-⟩:=blkH h.blk
 have z1:=h.blk.lt
 have hi:=hn.ints.1
 have hd:=h.dead
 have l1:(Instr.lookup 81 (.map (some y.dr)) (.int .i64 ns.id) true).run Tryz.prog w.drew=.ok (.tuple #[.agg #[],.bool (decide (ns.id∈s.dead))]) w.drew:=zGc (hd.mod ((Mod.refl zAb w).drew) (fun _ _=>id)) hi
 have l2:(Instr.lookup 81 (.map (some y.dr)) (.int .i64 ns.id) true).run Tryz.prog (w.alloc (.cells #[] 119)).drew=.ok (.tuple #[.agg #[],.bool (decide (ns.id∈s.dead))]) (w.alloc (.cells #[] 119)).drew:=zGc (hd.mod (((Mod.refl zAb w).alloc _).drew) (fun _ _=>id)) hi
 have HI:Hid (∀ wq,Mod zAb w wq->Calls Tryz.prog 128 #[.pointer (some ⟨b,0,none⟩)] wq fun e w'=>e=.returned (.int .i64 ns.id)/\w'=wq):=fun wq hq=>yEo _ _ _ _ _ _ (hn.quiet hq)
 have hL:zAu s ns=!decide (ns.id∈s.dead):=rfl
 have HL:=Hmq hL
 clear h hn hd hL
 go_enter Tryz.func108,Tryz.ntmps108
 go_upto_region 1 with fail
 go_cut [6] (fun t wc=>t=.bool (decide (ns.id∈s.dead))/\Mod zAb w wc)
 case first=>
  go_region_with (go_at_call 128;(first
   | (refine (HI.out _ ((Mod.refl zAb w).drew)).mono ?_)
   | (refine (HI.out _ (((Mod.refl zAb w).alloc _).drew)).mono ?_));rintro e w5 ⟨rfl,rfl⟩)
  all_goals
   go_wp2_with fail
   go_meet
   case rel=>exact ⟨rfl,((Mod.refl zAb w).alloc _).drew⟩
 case rest=>
  obtain ⟨rfl,hm⟩:=hcut
  cases hdd:decide (ns.id∈s.dead)
  all_goals
   go_wp2_with fail
   go_ret
   exact ⟨by rw [HL.out,hdd];rfl,hm⟩
def zYt:zAl:=⟨0,0,[],[],0⟩
def HLay.pairs(y:HLay)(s:zAa):List (Nat × zAl):=(y.lbs.zip s.lines).flatMap fun p=>(y.nbs p.1).zip p.2.nodes
def HLay.st(y:HLay)(s:zAa)(d:Nat):zAl:=(((y.pairs s).find? fun p=>decide (p.1=d)).map (·.2)).getD zYt
theorem yFy{β:Type}:∀ (l:List (Nat × β)) (c:Nat) (x:β),(l.map (·.1)).Nodup->(c,x)∈l->l.find? (fun p=>decide (p.1=c))=some (c,x)
 | [],_,_,_,h=>by simp at h
 | q :: l,c,x,hn,h=>by
  simp only [List.map_cons,List.nodup_cons] at hn
  rw [List.find?_cons]
  rcases List.mem_cons.1 h with e | e
  ·subst e;simp
  ·have hne:q.1≠c:=fun e2=>hn.1 (by rw [e2];exact List.mem_map.2 ⟨_,e,rfl⟩)
   rw [decide_eq_false hne]
   exact yFy l c x hn.2 e
theorem yLj{w:World}{n c g:Nat}{y:HLay}{s:zAa}(h:zAe w n c g y s):(y.pairs s).map (·.1)=y.lbs.flatMap y.nbs:=by
 have key:∀ (bs:List Nat) (ls:List zCs),bs.length=ls.length->(∀ (k b:Nat) l,bs[k]?=some b->ls[k]?=some l->(y.nbs b).length=l.nodes.length)->((bs.zip ls).flatMap fun p=>(y.nbs p.1).zip p.2.nodes).map (·.1)=bs.flatMap y.nbs:=by
  intro bs
  induction bs with
  | nil=>intro ls _ _;simp
  | cons b bs ih=>
   intro ls hl hq
   cases ls with
   | nil=>simp at hl
   | cons l ls=>
    rw [List.zip_cons_cons,List.flatMap_cons,List.map_append,List.flatMap_cons,ih ls (by simpa using hl) (fun k b' l' h1 h2=>hq (k+1) b' l' (by simpa using h1) (by simpa using h2))]
    congr 1
    exact List.map_fst_zip (Nat.le_of_eq (hq 0 b l rfl rfl))
 exact key y.lbs s.lines h.llen (fun k b l h1 h2=>(h.line k b l h1 h2).len)
theorem zXy{α β:Type}:∀ {a:List α} {b:List β} {i:Nat} {x:α} {z:β},a[i]?=some x->b[i]?=some z->(x,z)∈a.zip b
 | [],_,_,_,_,h,_=>by simp at h
 | _ :: _,[],_,_,_,_,h=>by simp at h
 | p :: a,q :: b,0,x,z,h1,h2=>by simp at h1 h2;subst h1 h2;simp
 | p :: a,q :: b,i+1,x,z,h1,h2=>by
  rw [List.zip_cons_cons]
  exact List.mem_cons_of_mem _ (zXy (by simpa using h1) (by simpa using h2))
theorem zAe.st_eq{w:World}{n c g:Nat}{y:HLay}{s:zAa}(h:zAe w n c g y s){k b j d:Nat}{l:zCs}{x:zAl}(h1:y.lbs[k]?=some b)(h2:s.lines[k]?=some l)(h3:(y.nbs b)[j]?=some d)(h4:l.nodes[j]?=some x):y.st s d=x:=by
 unfold HLay.st
 have hmem:(d,x)∈y.pairs s:=List.mem_flatMap.2 ⟨(b,l),zXy h1 h2,zXy h3 h4⟩
 rw [yFy (y.pairs s) d x (by rw [yLj h];exact h.own.nnd) hmem]
 rfl
theorem zAe.st_map{w:World}{n c g:Nat}{y:HLay}{s:zAa}(h:zAe w n c g y s){k b:Nat}{l:zCs}(h1:y.lbs[k]?=some b)(h2:s.lines[k]?=some l):(y.nbs b).map (y.st s)=l.nodes:=by
 have hl:=(h.line k b l h1 h2).len
 apply List.ext_getElem?
 intro j
 rw [List.getElem?_map]
 by_cases hj:j<(y.nbs b).length
 ·rw [List.getElem?_eq_getElem hj,List.getElem?_eq_getElem (by omega),Option.map_some,h.st_eq h1 h2 (List.getElem?_eq_getElem hj) (List.getElem?_eq_getElem (by omega))]
 ·rw [List.getElem?_eq_none (by omega),List.getElem?_eq_none (by omega)];rfl
theorem zAe.nodeB{w:World}{n c g:Nat}{y:HLay}{s:zAa}(h:zAe w n c g y s){k b d:Nat}(h1:y.lbs[k]?=some b)(h3:d∈y.nbs b):zQa w n y d (y.st s d):=by
 obtain ⟨j,hj⟩:=List.getElem?_of_mem h3
 have hk:k<s.lines.length:=by have:=(List.getElem?_eq_some_iff.1 h1).1;have:=h.llen;omega
 have h2:s.lines[k]?=some s.lines[k]:=List.getElem?_eq_getElem hk
 have hl:=h.line k b _ h1 h2
 have hjl:j<s.lines[k].nodes.length:=by have:=(List.getElem?_eq_some_iff.1 hj).1;have:=hl.len;omega
 have h4:s.lines[k].nodes[j]?=some s.lines[k].nodes[j]:=List.getElem?_eq_getElem hjl
 rw [h.st_eq h1 h2 hj h4]
 exact hl.node j d _ hj h4
theorem zBj{s:zAa}{k:Nat}(hk:k<s.lines.length):s.lines[k]?=some (s.line k):=by
 unfold zAa.line
 rw [List.getD_eq_getElem?_getD,List.getElem?_eq_getElem hk];rfl
theorem zNx:∀ bs:List Nat,bs.map ptrV=zDr bs
 | []=>rfl
 | b :: bs=>by rw [zHe,List.map_cons,zNx bs];rfl
def HLay.liv(y:HLay)(s:zAa)(b:Nat):List Nat:=(y.nbs b).filter fun d=>zAu s (y.st s d)
theorem zAe.liv_map{w:World}{n c g:Nat}{y:HLay}{s:zAa}(h:zAe w n c g y s){k b:Nat}(hk:k<s.lines.length)(h1:y.lbs[k]?=some b):(y.liv s b).map (y.st s)=zAk s k:=by
 unfold HLay.liv zAk
 rw [<-h.st_map h1 (zBj hk),List.filter_map];rfl
theorem yBa(n c g:Nat)(y:HLay)(s:zAa)(k b d:Nat)(w:World)(h:zAe w n c g y s)(hk:k<s.lines.length)(hb:y.lbs[k]?=some b)(hd:(y.nbs b)[0]?=some d) :
  Calls Tryz.prog 114 #[.pointer (some ⟨g,0,none⟩),.int .i64 k] w fun e w'=>e=.returned (.tuple #[.pointer (some ⟨d,0,none⟩),.bool (zAu s (y.st s d))])/\Mod zAb w w':=by
 obtain ⟨c0,-⟩:=blkH h.blk
 obtain ⟨lg,cap,hv,cl⟩:=zIy h.lrow hb
 rw [hv] at c0
 have hL:=h.line k b _ hb (zBj hk)
 have b0:=hL.blk.cell 0 rfl
 obtain ⟨ng,ncap,hnv,cn⟩:=zIy hL.row hd
 rw [hnv] at b0
 have HV:=Hmq (yAq n c g y s d (y.st s d) w h (h.nodeB hb (List.mem_of_getElem? hd)))
 have hlt:=(List.getElem?_eq_some_iff.1 hb).1
 have hkI:(k:Int)<(y.lbs.length:Int):=by omega
 have hk0:(0:Int)<=(k:Int):=by omega
 have hn0:=(List.getElem?_eq_some_iff.1 hd).1
 have hnI:(0:Int)<((y.nbs b).length:Int):=by omega
 clear h hv hL hnv hb hd
 go_enter Tryz.func114,Tryz.ntmps114
 go_wp2_with fail
 refine HV.out.mono ?_
 rintro e w1 ⟨rfl,hm⟩
 go_wp2_with fail
 go_ret2
 exact ⟨rfl,hm⟩
theorem yDq(n c g q:Nat)(y:HLay)(s:zAa)(d:Nat)(w:World)(h:zAe w n c g y s)(hd:zQa w n y d (y.st s d))(hq:w.cell? ⟨q,0,none⟩=some (.pointer (some ⟨g,0,none⟩))) :
  Calls Tryz.prog 107 #[.pointer (some ⟨d,0,none⟩),.pointer (some ⟨q,0,none⟩)] w fun e w'=>e=.returned (.bool (!zAu s (y.st s d)))/\Mod zAb w w':=by
 have HV:=Hmq (yAq n c g y s d (y.st s d) w h hd)
 clear h hd
 go_enter Tryz.func107,Tryz.ntmps107
 go_wp2_with fail
 refine HV.out.mono ?_
 rintro e w1 ⟨rfl,hm⟩
 go_wp2_with fail
 go_ret
 exact ⟨rfl,hm⟩
theorem yQp(y:HLay)(s:zAa)(b:Nat):zCu (fun d=>!zAu s (y.st s d)) (y.nbs b)=y.liv s b:=by
 unfold zCu HLay.liv
 congr 1
 funext d
 simp
theorem zPq(n c g:Nat)(y:HLay)(s:zAa)(k b:Nat)(w:World)(h:zAe w n c g y s)(hk:k<s.lines.length)(hb:y.lbs[k]?=some b)(hf:(y.nbs b).length<=100)(hne:0<(y.nbs b).length) :
  Calls Tryz.prog 67 #[.pointer (some ⟨g,0,none⟩),.int .i64 k] w fun e w'=>∃ v,e=.returned v/\w'.ownsRow w.heap.size 100 1 v (y.liv s b).length (zDr (y.liv s b))/\Mod zAb w w':=by
 obtain ⟨w1,hw1⟩:∃ x,x=w.alloc (.cells #[.pointer (some ⟨g,0,none⟩)] 42):=⟨_,rfl⟩
 have hm1:Mod zAb w w1:=by rw [hw1];exact (Mod.refl _ w).alloc _
 have hb1:Blk w1 w.heap.size [.pointer (some ⟨g,0,none⟩)] 42:=by rw [hw1];exact Blk.new w _ _
 have h1:=h.quiet hm1
 have x0:=hb1.cell 0 rfl
 obtain ⟨c0,-⟩:=blkH h1.blk
 obtain ⟨lg,cap,hv,cl⟩:=zIy h1.lrow hb
 rw [hv] at c0
 have hL:=h1.line k b _ hb (zBj hk)
 have b0:=hL.blk.cell 0 rfl
 obtain ⟨nd,hnd⟩:∃ d,(y.nbs b)[0]?=some d:=⟨_,List.getElem?_eq_getElem hne⟩
 obtain ⟨ng,ncap,hnv,cn⟩:=zIy hL.row hnd
 have hrow:=hL.row
 rw [hnv] at b0 hrow
 have hcl:=hrow.cells (g:=ng) rfl
 rw [zNx] at hcl
 have HCL:=Hmq (yEn ⟨ng,0,none⟩ (y.nbs b).length ncap (y.nbs b) w1 rfl hcl (by omega) (fun d _ u hu=>by simp [zIg] at hu;subst hu;rfl))
 have hmf:∀ fn first cap w,(Instr.makeFunc fn first cap).run Tryz.prog w=.ok (.func fn first cap) w:=fun _ _ _ _=>rfl
 have hlt:=(List.getElem?_eq_some_iff.1 hb).1
 have hkI:(k:Int)<(y.lbs.length:Int):=by omega
 have hk0:(0:Int)<=(k:Int):=by omega
 have HH:=Hmq h1
 have HB:=Hmq hb
 have HB1:=Hmq hb1
 have HM1:=Hmq hm1
 clear h h1 hv hL hnv hrow hcl hb hnd hb1 hm1 cn
 go_enter Tryz.func67,Tryz.ntmps67
 go_upto_region 1 with fail
 rw [<-hw1]
 clear hw1
 go_wp2_with fail
 refine HCL.out.mono ?_
 rintro e w2 ⟨ng2,ncap2,rfl,hrow2,hm2⟩
 have HA:AskG 107 #[.pointer (some ⟨w.heap.size,0,none⟩)] (fun d=>.pointer (some ⟨d,0,none⟩)) (y.nbs b) (fun d=>!zAu s (y.st s d)) (fun wr=>zAe wr n c g y s/\wr.cell? ⟨w.heap.size,0,none⟩=some (.pointer (some ⟨g,0,none⟩))):=
  ⟨zJz Tryz.func107 (by kernel_rfl) rfl,fun wa wb hh hm=>⟨hh.1.quiet hm,hm.cell hh.2 id⟩,fun d hd wr hh=>yDq n c g w.heap.size y s d wr hh.1 (hh.1.nodeB HB.out hd) hh.2⟩
 have hh2:=HH.out.quiet hm2
 have HDL:=Hmq (yBw 107 w1.heap.size #[.pointer (some ⟨w.heap.size,0,none⟩)] (fun d=>!zAu s (y.st s d)) (.slice (some ⟨ng2,0,none⟩) (y.nbs b).length ncap2) (y.nbs b) w2 _ hrow2 HA ⟨hh2,hm2.cell (HB1.out.cell 0 rfl) id⟩ (fun x hx w' hm'=>by
  have hx1:w1.heap.size<=x:=(zAi hrow2 hx).1
  have hml:Mod zAb w1 w':=hm2.trans' hm' (fun i hi e=>by simp only [zAd] at e;omega)
  exact ⟨HH.out.quiet hml,hml.cell (HB1.out.cell 0 rfl) id⟩) (by omega))
 rw [yQp] at HDL
 have HR:=Hmq hrow2
 have HM2:=Hmq hm2
 clear hrow2 hh2 HA hm2 HCL
 go_wp2_with fail
 refine HDL.out.mono ?_
 rintro e w3 ⟨v3,rfl,hrow3,hv3,hm3⟩
 obtain ⟨va3,vc3,hv3'⟩:=zAg hrow3
 subst hv3'
 have HR3:=Hmq hrow3
 have hm13:Mod zAb w1 w3:=HM2.out.trans' hm3 (fun i hi e=>by have:=(zAi HR.out e).1;omega)
 have HM3:=Hmq (HM1.out.trans hm13)
 have HZ:=Hmq HM1.out.size
 clear hrow3 hm3 hm13 HDL
 go_wp2_with fail
 go_ret
 exact ⟨_,rfl,zEk HR3.out HZ.out,HM3.out⟩
structure zGd(s:zAa):Prop where
 ll:2<=s.lines.length/\s.lines.length<=5
 nl:∀ l∈s.lines,1<=l.nodes.length/\l.nodes.length<=4
 tl:s.txs.length<=60
 ta:∀ t∈s.txs,t.ats.length=s.lines.length
 tw:∀ t∈s.txs,t.writes.length<=20
theorem zMg{s:zAa}{k:Nat}(hk:k<s.lines.length):s.line k∈s.lines:=List.mem_of_getElem? (zBj hk)
theorem zIj{s:zAa}{id:Nat}(h1:1<=id)(h2:id<=s.txs.length):s.txs[id - 1]?=some (s.tx id):=by
 unfold zAa.tx
 rw [List.getD_eq_getElem?_getD,List.getElem?_eq_getElem (by omega)];rfl
theorem zNm{s:zAa}{id:Nat}(h1:1<=id)(h2:id<=s.txs.length):s.tx id∈s.txs:=List.mem_of_getElem? (zIj h1 h2)
theorem zTh{α:Type}(f p:α->Bool):∀ l:List α,
  ((l.filter f).findIdx? p=none/\l.findIdx? (fun x=>f x && p x)=none)\/∃ i j d,(l.filter f).findIdx? p=some i/\(l.filter f)[i]?=some d/\l.findIdx? (fun x=>f x && p x)=some j/\l[j]?=some d
 | []=>.inl ⟨rfl,rfl⟩
 | x :: l=>by
  have ih:=zTh f p l
  cases hf:f x with
  | false=>
   rw [List.filter_cons_of_neg (by simp [hf]),List.findIdx?_cons (xs:=l) (p:=fun x=>f x && p x)]
   simp only [hf,Bool.false_and]
   rcases ih with ⟨h1,h2⟩ | ⟨i,j,d,h1,h2,h3,h4⟩
   ·exact .inl ⟨h1,by simp [h2]⟩
   ·exact .inr ⟨i,j+1,d,h1,h2,by simp [h3],by simpa using h4⟩
  | true=>
   rw [List.filter_cons_of_pos hf,List.findIdx?_cons (xs:=l) (p:=fun x=>f x && p x),List.findIdx?_cons]
   simp only [hf,Bool.true_and]
   cases hp:p x with
   | true=>exact .inr ⟨0,0,x,by simp,rfl,by simp,rfl⟩
   | false=>
    rcases ih with ⟨h1,h2⟩ | ⟨i,j,d,h1,h2,h3,h4⟩
    ·exact .inl ⟨by simp [h1],by simp [h2]⟩
    ·exact .inr ⟨i+1,j+1,d,by simp [h1],by simpa using h2,by simp [h3],by simpa using h4⟩
def yOl(y:HLay)(o:Option (Nat × Nat))(e:Ending):Prop:=match o with
 | none=>e=.returned (.tuple #[.pointer none,.bool false])
 | some (k,j)=>∃ b d,y.lbs[k]?=some b/\(y.nbs b)[j]?=some d/\e=.returned (.tuple #[.pointer (some ⟨d,0,none⟩),.bool true])
theorem yHp{s:zAa}{id:Int}{k:Nat}(hk:k<s.lines.length):zQr s id k (s.lines.drop k)=match zUa s (s.line k).nodes id with
  | some j=>some (k,j)
  | none=>zQr s id (k+1) (s.lines.drop (k+1)):=by
 rw [zCl (zBj hk)];rfl
theorem yLn(n c g q:Nat)(y:HLay)(s:zAa)(d:Nat)(id:Int)(w:World)(hd:zQa w n y d (y.st s d))(hq:w.cell? ⟨q,0,none⟩=some (.int .i64 id)) :
  Calls Tryz.prog 127 #[.pointer (some ⟨d,0,none⟩),.pointer (some ⟨q,0,none⟩)] w fun e w'=>e=.returned (.bool (decide ((y.st s d).id=id)))/\Mod zAb w w':=by
 have HI:Hid (∀ m,Calls Tryz.prog 128 #[.pointer (some ⟨d,0,none⟩)] (w.drewN m) fun e w'=>e=.returned (.int .i64 (y.st s d).id)/\w'=w.drewN m):=fun m=>yEo _ _ _ _ _ _ (hd.drewN m)
 have z:=World.block_lt_of_cell? w _ hq
 clear hd
 by_cases he:(y.st s d).id=id
 ·have hb:((y.st s d).id == id)=true:=by simpa using he
  have hdd:decide ((y.st s d).id=id)=true:=decide_eq_true he
  have HDD:=Hmq hdd
  clear hdd he
  go_enter Tryz.func127,Tryz.ntmps127
  go_upto_region 1 with fail
  go_quiet (first
   | (go_at_call 128;refine Calls.quiet_of_same (HI.out _))
   | fail)
  go_wp2_with fail
  go_ret
  exact ⟨by rw [HDD.out];first | rfl | (simp [hb]),(Mod.refl _ w).drewN _⟩
 ·have hb:((y.st s d).id == id)=false:=by simpa using he
  have hdd:decide ((y.st s d).id=id)=false:=decide_eq_false he
  have HDD:=Hmq hdd
  clear hdd he
  go_enter Tryz.func127,Tryz.ntmps127
  go_upto_region 1 with fail
  go_quiet (first
   | (go_at_call 128;refine Calls.quiet_of_same (HI.out _))
   | fail)
  go_wp2_with fail
  go_ret
  exact ⟨by rw [HDD.out];first | rfl | (simp [hb]),(Mod.refl _ w).drewN _⟩
theorem yAy(n c g:Nat)(y:HLay)(s:zAa)(id:Int)(w:World)(h:zAe w n c g y s)(hs:zGd s) :
  Calls Tryz.prog 79 #[.pointer (some ⟨g,0,none⟩),.int .i64 id] w fun e w'=>yOl y (zIo s id) e/\Mod zAb w w':=by
 obtain ⟨w1,hw1⟩:∃ x,x=w.alloc (.cells #[.int .i64 id] 3):=⟨_,rfl⟩
 have hm1:Mod zAb w w1:=by rw [hw1];exact (Mod.refl _ w).alloc _
 have hb1:Blk w1 w.heap.size [.int .i64 id] 3:=by rw [hw1];exact Blk.new w _ _
 have h1:=h.quiet hm1
 obtain ⟨c0,-⟩:=blkH h1.blk
 obtain ⟨la,lcap,hv⟩:=zAg h1.lrow
 rw [hv,h.llen] at c0
 have hll:=hs.ll
 have HH:=Hmq h1
 have HB1:=Hmq hb1
 have HM1:=Hmq hm1
 have hmf:∀ fn first cap w,(Instr.makeFunc fn first cap).run Tryz.prog w=.ok (.func fn first cap) w:=fun _ _ _ _=>rfl
 clear h h1 hv hb1 hm1
 go_enter Tryz.func79,Tryz.ntmps79
 go_upto_region 1 with fail
 rw [<-hw1]
 clear hw1
 go_wp2_with fail
 go_loopw [14] (fun k0 wr=>∃ k:Nat,k<=s.lines.length/\k0=.int .i64 k/\zIo s id=zQr s id k (s.lines.drop k)/\Mod zAb w1 wr) (fun k0 _=>s.lines.length - (intOf k0).toNat)
 case atStart=>exact ⟨0,Nat.zero_le _,rfl,by rw [List.drop_zero];rfl,Mod.refl _ _⟩
 case round=>
  obtain ⟨k,hkl,rfl,hf,hm⟩:=hrel
  have HM:=Hmq hm
  have HF:=Hmq hf
  clear hm hf c0
  by_cases hlt:k<s.lines.length
  ·have hhr:=HH.out.quiet HM.out
   obtain ⟨b,hb,hL⟩:=hhr.lineQ hlt
   have hnl:=hs.nl _ (zMg hlt)
   have hlen:=hL.len
   have HLV:=Hmq (zPq n c g y s k b wr hhr hlt hb (by omega) (by omega))
   have hltI:(k:Int)<(s.lines.length:Int):=by omega
   have HB:=Hmq hb
   have HL:=Hmq hhr
   have HFC:=Hmq (yHp (id:=id) hlt)
   have HSM:=Hmq (hhr.st_map hb (zBj hlt))
   clear hhr hL hb hlen
   go_wp2_with fail
   refine HLV.out.mono ?_
   rintro e w2 ⟨v,rfl,hrow,hm2⟩
   obtain ⟨va,vc,hv⟩:=zAg hrow
   subst hv
   have HR:=Hmq hrow
   have HM2:=Hmq (HM.out.trans hm2)
   have hh2:=HL.out.quiet hm2
   have HA:AskG 127 #[.pointer (some ⟨w.heap.size,0,none⟩)] (fun d=>.pointer (some ⟨d,0,none⟩)) (y.liv s b) (fun d=>decide ((y.st s d).id=id)) (fun wr=>zAe wr n c g y s/\wr.cell? ⟨w.heap.size,0,none⟩=some (.int .i64 id)):=
    ⟨zJz Tryz.func127 (by kernel_rfl) rfl,fun wa wb hh hm=>⟨hh.1.quiet hm,hm.cell hh.2 (fun e=>e)⟩,fun d hd wr hh=>yLn n c g w.heap.size y s d id wr (hh.1.nodeB HB.out (List.mem_filter.1 hd).1) hh.2⟩
   have HIX:=Hmq (zSp 127 w2.heap.size #[.pointer (some ⟨w.heap.size,0,none⟩)] (fun d=>decide ((y.st s d).id=id)) _ (y.liv s b) w2 _ (zSd hrow) HA ⟨hh2,HM2.out.cell (HB1.out.cell 0 rfl) (fun e=>e)⟩ (by have:=List.length_filter_le (fun d=>zAu s (y.st s d)) (y.nbs b);have:=(HL.out.line k b _ HB.out (zBj hlt)).len;show (y.liv s b).length<=_;unfold HLay.liv;omega))
   clear hrow hm2 hh2 HA HLV
   go_wp2_with fail
   refine HIX.out.mono ?_
   rintro e w3 ⟨rfl,hm3⟩
   have HM3:=Hmq (HM2.out.trans hm3)
   have hff:=zTh (fun d=>zAu s (y.st s d)) (fun d=>decide ((y.st s d).id=id)) (y.nbs b)
   have hfn:zUa s (s.line k).nodes id=(y.nbs b).findIdx? (fun d=>zAu s (y.st s d) && decide ((y.st s d).id=id)):=by
    unfold zUa
    rw [<-HSM.out,List.findIdx?_map];rfl
   rcases hff with ⟨g1,g2⟩ | ⟨i,j,d,g1,g2,g3,g4⟩
   ·have e1:idxI ((y.liv s b).findIdx? fun d=>decide ((y.st s d).id=id)) = -1:=by unfold HLay.liv;rw [g1];rfl
    rw [e1]
    have HN:Hid (zIo s id=zQr s id (k+1) (s.lines.drop (k+1))):=by unfold Hid;rw [HF.out,HFC.out,hfn,g2]
    clear e1 g1 g2 hfn hm3 HIX
    go_wp2_with fail
    go_roundw
    case rel=>exact ⟨k+1,by omega,by go_num,HN.out,HM3.out⟩
    case measure=>simp [intOf];omega
   ·have e1:idxI ((y.liv s b).findIdx? fun d=>decide ((y.st s d).id=id))=(i:Int):=by unfold HLay.liv;rw [g1];rfl
    rw [e1]
    have HN:Hid (zIo s id=some (k,j)):=by unfold Hid;rw [HF.out,HFC.out,hfn,g3]
    obtain ⟨rb,roff,rl,hra,_,hrl,_,hrc⟩:=SlR.at (zSd (zAn HR.out hm3 (fun _ _ _ _ e=>e))) g2
    unfold yPh at hrl
    subst hrl
    subst hra
    have q0:=hrc 0 _ rfl
    simp only [Nat.add_zero,Nat.mul_one] at q0
    have hil:i<(y.liv s b).length:=(List.getElem?_eq_some_iff.1 g2).1
    have hiI:(i:Int)<((y.liv s b).length:Int):=by omega
    have hi0:(0:Int)<=(i:Int):=by omega
    have hge:decide ((i:Int) ≥ 0)=true:=decide_eq_true (by omega)
    have HG4:=Hmq g4
    clear e1 g1 g2 g3 g4 hfn hm3 HIX hrc
    go_wp2_with fail
    go_ret2
    exact ⟨by rw [HN.out];exact ⟨b,d,HB.out,HG4.out,rfl⟩,HM1.out.trans HM3.out⟩
  ·obtain rfl:k=s.lines.length:=by omega
   have HN:Hid (zIo s id=none):=by unfold Hid;rw [HF.out,List.drop_length];rfl
   go_wp2_with fail
   go_ret2
   exact ⟨by rw [HN.out];rfl,HM1.out.trans HM.out⟩
def zMu(w:World)(v:Value)(cs:List CmdD):Prop:=∃ us:List Value,(us.length=cs.length/\∀ u∈us,∃ a m c,u=.slice a m c)/\SlR w w.heap.size 4 zZt v (cs.zip us)
theorem zWr{α β:Type}:∀ {a:List α} {b:List β} {i:Nat} {x:α × β},(a.zip b)[i]?=some x->a[i]?=some x.1/\b[i]?=some x.2
 | [],_,_,_,h=>by simp at h
 | _ :: _,[],_,_,h=>by simp at h
 | p :: a,q :: b,0,x,h=>by simp at h;subst h;exact ⟨rfl,rfl⟩
 | p :: a,q :: b,i+1,x,h=>by
  rw [List.zip_cons_cons,List.getElem?_cons_succ] at h
  have:=zWr h
  exact ⟨by simpa using this.1,by simpa using this.2⟩
theorem RowC.toV{w:World}{L:Lo}{v:Value}{cs:List CmdD}(h:RowC w L v cs):zMu w v cs:=by
 obtain ⟨us,h1,h2,h3,h4⟩:=h
 refine ⟨us,⟨h1,fun u hu=>?_⟩,?_⟩
 ·obtain ⟨i,hi⟩:=List.getElem?_of_mem hu
  have hil:i<cs.length:=by have:=(List.getElem?_eq_some_iff.1 hi).1;omega
  obtain ⟨a,cap,e,_⟩:=h3 i _ u (List.getElem?_eq_getElem hil) hi
  exact ⟨_,_,_,e⟩
 have hz:(cs.zip us).length=cs.length:=by rw [List.length_zip];omega
 rcases h2.2 with ⟨rfl,hn⟩ | ⟨g,cap,cur,rfl,q1,q2,q3,q4,q5,q6⟩
 ·have hc:cs=[]:=List.eq_nil_of_length_eq_zero hn
  subst hc
  exact SlR.nil _ _ _ _
 ·have hcl:=h2.cells (g:=g) rfl
  have hgl:g<w.heap.size:=(Array.getElem?_eq_some_iff.1 q2).1
  refine ⟨_,cap,by rw [hz],by rw [hz];exact q3,q4,.inr ⟨g,0,rfl,by omega,fun i d hi=>⟨zEm d.1 d.2,rfl,rfl,fun j x hx=>?_⟩⟩⟩
  obtain ⟨e1,e2⟩:=zWr hi
  have:=hcl _ _ (zIe cs us i d.1 d.2 h1 e1 e2 j x hx)
  rw [Go.WideShapes.add_plain,Nat.zero_add] at this
  rw [Nat.zero_add]
  exact this
theorem zMu.mod{G:Nat->Prop}{w w':World}{v:Value}{cs:List CmdD}(h:zMu w v cs)(hm:Mod G w w')(hG:∀ k,v.ownBlock=some k->¬ G k):zMu w' v cs:=by
 obtain ⟨us,h1,a,cap,h2,h3,h4,h5⟩:=h
 refine ⟨us,h1,a,cap,h2,h3,h4,?_⟩
 rcases h5 with h5 | ⟨b,off,h6,h7,h8⟩
 ·exact .inl h5
 ·refine .inr ⟨b,off,h6,Nat.lt_of_lt_of_le h7 hm.size,fun i d hi=>?_⟩
  obtain ⟨l,hl,hl2,hl3⟩:=h8 i d hi
  refine ⟨l,hl,hl2,fun j x hx=>hm.cell (hl3 j x hx) (hG b ?_)⟩
  rw [h2,h6];rfl
theorem yRa{α β:Type}(p:α->Bool)(a:List α)(b:List β)(h:b.length=a.length):(a.zip b).findIdx? (fun d=>p d.1)=a.findIdx? p:=by
 conv=>rhs;rw [<-List.map_fst_zip (l₁:=a) (l₂:=b) (by omega)]
 rw [List.findIdx?_map];rfl
theorem yDz(q1 q2:Nat)(d:CmdD × Value)(kind tx:Int)(w:World)(h1:w.cell? ⟨q1,0,none⟩=some (.int .i64 kind))(h2:w.cell? ⟨q2,0,none⟩=some (.int .i64 tx)) :
  Calls Tryz.prog 198 #[.agg #[.int .i64 d.1.kind,.int .i64 d.1.tx,.int .i64 d.1.time,d.2],.pointer (some ⟨q1,0,none⟩),.pointer (some ⟨q2,0,none⟩)] w fun e w'=>e=.returned (.bool (decide (d.1.kind=kind) && decide (d.1.tx=tx)))/\Mod zAb w w':=by
 obtain ⟨⟨k,x,t,ws⟩,u⟩:=d
 dsimp only
 obtain ⟨w1,hw1⟩:∃ z,z=w.alloc (.cells #[.int .i64 k,.int .i64 x,.int .i64 t,u] 108):=⟨_,rfl⟩
 have hm1:Mod zAb w w1:=by rw [hw1];exact (Mod.refl _ w).alloc _
 have hb1:Blk w1 w.heap.size [.int .i64 k,.int .i64 x,.int .i64 t,u] 108:=by rw [hw1];exact Blk.new w _ _
 have g1:=hm1.cell h1 id
 have g2:=hm1.cell h2 id
 have b0:=hb1.cell 0 rfl
 have b1:=hb1.cell 1 rfl
 have HM:=Hmq hm1
 clear h1 h2 hb1 hm1
 by_cases e1:k=kind
 ·have d1:(k == kind)=true:=by simpa using e1
  by_cases e2:x=tx
  ·have d2:(x == tx)=true:=by simpa using e2
   have HD:Hid ((decide (k=kind) && decide (x=tx))=true):=by unfold Hid;simp [e1,e2]
   clear e1 e2
   go_enter Tryz.func198,Tryz.ntmps198
   go_upto_region 1 with fail
   rw [<-hw1]
   clear hw1
   go_wp2_with fail
   go_ret
   exact ⟨by rw [HD.out];first | rfl | simp [d1,d2],HM.out⟩
  ·have d2:(x == tx)=false:=by simpa using e2
   have HD:Hid ((decide (k=kind) && decide (x=tx))=false):=by unfold Hid;simp [e2]
   clear e1 e2
   go_enter Tryz.func198,Tryz.ntmps198
   go_upto_region 1 with fail
   rw [<-hw1]
   clear hw1
   go_wp2_with fail
   go_ret
   exact ⟨by rw [HD.out];first | rfl | simp [d1,d2],HM.out⟩
 ·have d1:(k == kind)=false:=by simpa using e1
  have HD:Hid ((decide (k=kind) && decide (x=tx))=false):=by unfold Hid;simp [e1]
  clear e1
  go_enter Tryz.func198,Tryz.ntmps198
  go_upto_region 1 with fail
  rw [<-hw1]
  clear hw1
  go_wp2_with fail
  go_ret
  exact ⟨by rw [HD.out];first | rfl | simp [d1],HM.out⟩
theorem zPv(v:Value)(cs:List CmdD)(kind tx:Int)(w:World)(hv:zMu w v cs)(hl:cs.length<=1000) :
  Calls Tryz.prog 145 #[v,.int .i64 kind,.int .i64 tx] w fun e w'=>e=.returned (.int .i64 (idxI (zDl cs kind tx)))/\Mod zAb w w':=by
 obtain ⟨w1,hw1⟩:∃ z,z=w.alloc (.cells #[.int .i64 kind] 3):=⟨_,rfl⟩
 obtain ⟨w2,hw2⟩:∃ z,z=w1.alloc (.cells #[.int .i64 tx] 3):=⟨_,rfl⟩
 have hm1:Mod zAb w w1:=by rw [hw1];exact (Mod.refl _ w).alloc _
 have hm2:Mod zAb w1 w2:=by rw [hw2];exact (Mod.refl _ w1).alloc _
 have hz1:w1.heap.size=w.heap.size+1:=by rw [hw1,World.size_alloc]
 have hb1:Blk w2 w.heap.size [.int .i64 kind] 3:=Blk.mod (by rw [hw1];exact Blk.new w _ _) hm2 id
 have hb2:Blk w2 (w.heap.size+1) [.int .i64 tx] 3:=by rw [<-hz1,hw2];exact Blk.new w1 _ _
 have hm:=hm1.trans hm2
 obtain ⟨us,hu,hsl⟩:=hv.mod hm (fun _ _ e=>e)
 have hlz:(cs.zip us).length=cs.length:=by rw [List.length_zip];omega
 have HA:AskG 198 #[.pointer (some ⟨w.heap.size,0,none⟩),.pointer (some ⟨w.heap.size+1,0,none⟩)] (fun d=>.agg #[.int .i64 d.1.kind,.int .i64 d.1.tx,.int .i64 d.1.time,d.2]) (cs.zip us) (fun d=>decide (d.1.kind=kind) && decide (d.1.tx=tx)) (fun wr=>wr.cell? ⟨w.heap.size,0,none⟩=some (.int .i64 kind)/\wr.cell? ⟨w.heap.size+1,0,none⟩=some (.int .i64 tx)):=
  ⟨zJz Tryz.func198 (by kernel_rfl) rfl,fun wa wb hh hm=>⟨hm.cell hh.1 (fun e=>e),hm.cell hh.2 (fun e=>e)⟩,fun d hd wr hh=>yDz _ _ d kind tx wr hh.1 hh.2⟩
 have HIX:=Hmq (yDy 198 w2.heap.size _ _ v (cs.zip us) w2 _ hsl HA ⟨hb1.cell 0 rfl,hb2.cell 0 rfl⟩ (by omega))
 rw [show ((cs.zip us).findIdx? fun d=>decide (d.1.kind=kind) && decide (d.1.tx=tx))=zDl cs kind tx from yRa (fun c=>decide (c.kind=kind) && decide (c.tx=tx)) cs us hu.1] at HIX
 obtain ⟨va,vc,hva,_,_⟩:=SlR.slice hsl
 rw [hlz] at hva
 subst hva
 have hmf:∀ fn first cap w,(Instr.makeFunc fn first cap).run Tryz.prog w=.ok (.func fn first cap) w:=fun _ _ _ _=>rfl
 have HM:=Hmq hm
 clear hv hsl HA hb1 hb2 hm1 hm2 hm hz1
 go_enter Tryz.func145,Tryz.ntmps145
 go_upto_region 1 with fail
 rw [<-hw1,<-hw2]
 clear hw1 hw2
 go_wp2_with fail
 refine HIX.out.mono ?_
 rintro e w3 ⟨rfl,hm3⟩
 go_wp2_with fail
 go_ret
 exact ⟨rfl,HM.out.trans hm3⟩
theorem yBs{α β:Type}:∀ (a:List α) (b:List β) (k:Nat),(a.drop k).zip (b.drop k)=(a.zip b).drop k
 | [],b,k=>by simp
 | a :: as',[],k=>by cases k <;> simp
 | a :: as',b :: bs,0=>rfl
 | a :: as',b :: bs,k+1=>by simpa using yBs as' bs k
theorem zMu.drop{w:World}{ga:Addr}{m cap:Nat}{cs:List CmdD}(h:zMu w (.slice (some ga) m cap) cs){k:Nat}(hk:k<cs.length):ga.spot=none/\zMu w (.slice (some ⟨ga.block,ga.off+k*4,none⟩) (m - k) (cap - k)) (cs.drop k)/\m=cs.length/\k<=cap:=by
 obtain ⟨us,h1,a,cap',h2,h3,h4,h5⟩:=h
 have hz:(cs.zip us).length=cs.length:=by rw [List.length_zip];omega
 simp only [Value.slice.injEq] at h2
 obtain ⟨e1,e2,e3⟩:=h2
 rw [hz] at e2 h3
 subst e1 e2 e3
 rcases h5 with h5 | ⟨b,off,h6,h7,h8⟩
 ·rw [h5] at hz;simp at hz;omega
 ·cases h6
  refine ⟨rfl,⟨us.drop k,⟨by simp [h1.1],fun u hu=>h1.2 u (List.mem_of_mem_drop hu)⟩,some ⟨b,off+k*4,none⟩,cap - k,?_,?_,?_,.inr ⟨b,off+k*4,rfl,h7,fun i d hi=>?_⟩⟩,rfl,by omega⟩
  ·rw [List.length_zip,List.length_drop,List.length_drop,h1.1,Nat.min_self]
  ·rw [List.length_zip,List.length_drop,List.length_drop,h1.1,Nat.min_self];omega
  ·omega
  ·rw [yBs,List.getElem?_drop] at hi
   obtain ⟨l,hl,hl2,hl3⟩:=h8 _ d hi
   refine ⟨l,hl,hl2,fun j x hx=>?_⟩
   have:=hl3 j x hx
   rw [show off+k*4+i*4+j=off+(k+i)*4+j by omega]
   exact this
end Go.Proofs.YtogaigioeohjaaaGreatDoor
