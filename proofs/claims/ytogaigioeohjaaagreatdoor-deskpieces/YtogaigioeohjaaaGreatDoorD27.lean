import Derived.Test.YtogaigioeohjaaaGreatDoorD26
import Derived.Test.YtogaigioeohjaaaGreatDoorD22
import Derived.Laws.EntriesVeiled
import Derived.WalkSmall
import Derived.Test.YtogaigioeohjaaaGreatDoorD25
set_option linter.unusedVariables false
set_option maxRecDepth 100000
set_option maxHeartbeats 16000000
namespace Go.Proofs.YtogaigioeohjaaaGreatDoor
open Go.RowKit Go.Lib Go.Maps
structure VD(w:World):Prop where
 sz:7<=w.heap.size
 ml:∃ m,w.cell? ⟨0,0,none⟩=some (.int .i64 m)
 tab : Lib.TabIs Tryz.prog w "internal/strconv.uint64pow10" .u64 Lib.pow10Tab
 syn:∃ te pe,w.cell? ⟨3,0,none⟩=some (.iface te pe)
 rng:∃ te pe,w.cell? ⟨4,0,none⟩=some (.iface te pe)
 et:ET w
theorem yPl : Tryz.prog.globalNamed "internal/strconv.uint64pow10" = some 1 := by kernel_rfl
theorem VD.mod{G:Nat->Prop}{w w':World}(h:VD w)(hm:Mod G w w')(hG:∀ k,k<7->¬ G k):VD w':=by
 have hs:=h.sz
 refine ⟨Nat.le_trans h.sz hm.size,?_,?_,?_,?_,hm.cell h.et (hG _ (by decide))⟩
 ·obtain ⟨m,q⟩:=h.ml;exact ⟨m,hm.cell q (hG _ (by decide))⟩
 ·have q:=h.tab
  unfold Lib.TabIs World.var? at q ⊢
  rw [yPl] at q ⊢
  simp only [Option.bind_some] at q ⊢
  rw [hm.block 1 (by omega) (hG _ (by decide))]
  exact q
 ·obtain ⟨a,b,q⟩:=h.syn;exact ⟨a,b,hm.cell q (hG _ (by decide))⟩
 ·obtain ⟨a,b,q⟩:=h.rng;exact ⟨a,b,hm.cell q (hG _ (by decide))⟩
theorem VD.quiet{w w':World}(h:VD w)(hm:Mod zAb w w'):VD w':=h.mod hm (fun _ _=>id)
theorem Mod.since0{w w':World}(h:Below w.heap.size w w'):Mod zAb w w':=⟨h.os,h.tape,h.output,h.size,fun k hk _=>h.block k hk⟩
theorem Mod.grow0{w:World}(os:Array Obj):Mod zAb w (Go.Sort.grow w os):=by
 refine ⟨rfl,rfl,rfl,by simp [Go.Sort.grow],fun k hk _=>?_⟩
 simp only [Go.Sort.grow]
 rw [Array.getElem?_append_left hk]
theorem Mod.bytes0{w:World}(e:TypeId)(s:ByteArray):Mod zAb w (Lib.bytesWorld w e s):=by
 have h1:Mod zAb w (w.drew.alloc (.cells (Lib.bytesCells w e s) e)):=((Mod.refl zAb w).drew).alloc _
 refine ⟨h1.os,h1.tape,h1.output,?_,fun k hk hn=>?_⟩
 ·refine Nat.le_trans h1.size ?_
  unfold Lib.bytesWorld World.freeze
  split
  ·exact Nat.le_refl _
  ·simp
 ·refine Eq.trans ?_ (h1.block k hk hn)
  unfold Lib.bytesWorld World.freeze
  split
  ·rfl
  ·simp only [Array.getElem?_modify]
   rw [if_neg (by omega)]
def strB(l:List UInt8):ByteArray:=⟨l.toArray⟩
theorem zRb(n:Int)(hn:zBc n)(w:World)(h:VD w):Calls Tryz.prog 12 #[.int .i64 n] w fun e w'=>e=.returned (.string (strB (Lib.itoa n)))/\Mod zAb w w':=by
 refine (Tryz.strconv_Itoa n hn.1 hn.2 w h.tab).mono ?_
 rintro e w' ⟨rfl,k,os,rfl⟩
 exact ⟨rfl,((Mod.refl zAb w).drewN k).trans (Mod.grow0 os)⟩
def numD(s:ByteArray):Option Int:=match Lib.atoiAll s.data.toList with
 | .ok v=>if strB (Lib.itoa v)=s then some v else none
 | _=>none
theorem yAb{l:List UInt8}{v:Int}(h:Lib.atoiAll l=.ok v):zBc v:=by
 unfold Lib.atoiAll at h
 split at h
 ·cases h
 ·simp only at h
  split at h
  ·cases h
  ·cases h
  ·rename_i u hu
   split at h
   ·cases h
   ·rename_i h1
    split at h
    ·cases h
    ·rename_i h2
     cases h
     unfold zBc
     split <;> omega
def zOw(s:ByteArray):Int × Bool:=match Lib.atoiAll s.data.toList with
 | .ok v=>(v,false)
 | .range=>(Lib.atoiSat s.data.toList,true)
 | _=>(0,true)
theorem yRx(s:ByteArray)(hs:s.size<=1000000)(w:World)(h:VD w):Calls Tryz.prog 77 #[.string s] w fun e w'=>
  (∃ ev,e=.returned (.tuple #[.int .i64 (zOw s).1,ev])/\(if (zOw s).2 then ∃ N,ev=.iface 223 (.pointer (some ⟨N,0,none⟩)) else ev=.nilIface))/\Mod zAb w w':=by
 cases ha:Lib.atoiAll s.data.toList with
 | ok v=>
  have e1:zOw s=(v,false):=by unfold zOw;rw [ha]
  refine (Tryz.strconv_Atoi_ok s (by omega) v ha w).mono ?_
  rintro e w' ⟨rfl,hw⟩
  refine ⟨⟨_,by rw [e1],by rw [e1];rfl⟩,?_⟩
  rcases hw with rfl | ⟨t,rfl⟩
  ·exact Mod.refl _ _
  ·exact Mod.bytes0 _ _
 | «syntax»=>
  have e1:zOw s=(0,true):=by unfold zOw;rw [ha]
  obtain ⟨te,pe,q⟩:=h.syn
  refine (Tryz.strconv_Atoi_syntax s (by omega) ha _ w q (.inr ⟨te,pe,rfl⟩)).mono ?_
  rintro e w' ⟨N,rfl,_,_,hb⟩
  exact ⟨⟨_,by rw [e1],by rw [e1];exact ⟨N,rfl⟩⟩,Mod.since0 hb⟩
 | range=>
  have e1:zOw s=(Lib.atoiSat s.data.toList,true):=by unfold zOw;rw [ha]
  obtain ⟨te,pe,q⟩:=h.rng
  refine (Tryz.strconv_Atoi_range s (by omega) ha _ w q (.inr ⟨te,pe,rfl⟩)).mono ?_
  rintro e w' ⟨N,rfl,_,_,hb⟩
  exact ⟨⟨_,by rw [e1],by rw [e1];exact ⟨N,rfl⟩⟩,Mod.since0 hb⟩
def zCv(e:Int):Ending:=.panicked [{ v:=.iface 25 (.int .i64 e),recovered:=false }]
theorem zVh:∀ (k u:Nat),u<10 ^ (k+1)->Lib.nDigits u<=k+1
 | 0,u,h=>by rw [Lib.nDigits_small (by simpa using h)];omega
 | k+1,u,h=>by
  by_cases hu:u<10
  ·rw [Lib.nDigits_small hu];omega
  ·rw [Lib.nDigits_big hu]
   have:=zVh k (u / 10) (by rw [Nat.pow_succ] at h;omega)
   omega
theorem zYf{n:Int}(h:zBc n):(strB (Lib.itoa n)).size<=21:=by
 have h1:∀ u:Nat,u<=9223372036854775808->(Lib.decDigits u).length<=20:=fun u hu=>by
  rw [Lib.decDigits_length];exact zVh 19 u (by omega)
 unfold zBc at h
 have h2:(Lib.itoa n).length<=21:=by
  unfold Lib.itoa
  split
  ·have:=h1 n.natAbs (by omega);simp;omega
  ·have:=h1 n.toNat (by omega);omega
 simpa [strB,ByteArray.size] using h2
def zGy(n:Int):ByteArray:=⟨#[101,114,114,111,114,32]⟩++strB (Lib.itoa n)
theorem yJv(n:Int)(hn:zBc n)(w:World)(h:VD w):Calls Tryz.prog 5 #[.int .i64 n] w fun e w'=>e=.returned (.string (zGy n))/\Mod zAb w w':=by
 have HIT:=Hmq (zRb n hn w h)
 have hl:=zYf hn
 have hl2:¬ 9223372036854775807<6+(strB (Lib.itoa n)).size:=by omega
 go_enter Tryz.func5,Tryz.ntmps5
 go_wp2_with (first
  | (go_at_call 12;refine HIT.out.mono ?_;rintro e w1 ⟨rfl,hm1⟩)
  | fail)
 go_ret
 exact ⟨rfl,hm1⟩
theorem yQa(er:Int)(w:World)(h:ET w):Calls Tryz.prog 41 #[errQ er] w fun e w'=>(e=if er=0 then .returned (.tuple #[]) else zCv er)/\Mod zAb w w':=by
 by_cases he:er=0
 ·subst he
  rw [zCc]
  go_enter Tryz.func41,Tryz.ntmps41
  go_wp2_with fail
  go_end0
  exact ⟨by simp,Mod.refl _ _⟩
 ·have HT:=Hmq (yKm er w h)
  rw [zBa he] at HT ⊢
  go_enter Tryz.func41,Tryz.ntmps41
  go_wp2_with (first
   | (go_at_call 68;refine HT.out.mono ?_;rintro e w1 ⟨rfl,hm1⟩)
   | fail)
  exact ⟨rfl,rfl,hm1⟩
def NumP(s:ByteArray)(w:World)(e:Ending)(w':World):Prop:=(match numD s with | some v=>e=.returned (.int .i64 v) | none=>e=zCv 3)/\Mod zAb w w'
theorem NumP.yes{s:ByteArray}{v:Int}{w w':World}{e:Ending}(h:numD s=some v):NumP s w e w'↔(e=.returned (.int .i64 v)/\Mod zAb w w'):=by unfold NumP;rw [h]
theorem NumP.no{s:ByteArray}{w w':World}{e:Ending}(h:numD s=none):NumP s w e w'↔(e=zCv 3/\Mod zAb w w'):=by unfold NumP;rw [h]
theorem ySv{s:ByteArray}{v:Int}(h:numD s=some v):zBc v:=by
 unfold numD at h
 split at h
 ·rename_i v' hv
  split at h
  ·cases h;exact yAb hv
  ·cases h
 ·cases h
theorem yNu{a b:ByteArray}(h:a.toList=b.toList):a=b:=by
 rw [ByteArray.toList_eq,ByteArray.toList_eq] at h
 cases a;cases b
 simp only [Array.toList_inj] at h
 rw [h]
theorem zDc(s:ByteArray)(hs:s.size<=1000000)(w:World)(h:VD w):Calls Tryz.prog 44 #[.string s] w (NumP s w):=by
 have HAT:=Hmq (yRx s hs w h)
 have HV:=Hmq h
 cases ha:Lib.atoiAll s.data.toList with
 | ok v=>
  have e1:zOw s=(v,false):=by unfold zOw;rw [ha]
  have hv:=yAb ha
  have HIT:Hid (∀ w1,Mod zAb w w1->_):=fun w1 hm=>zRb v hv w1 (h.quiet hm)
  rw [e1] at HAT
  by_cases hq:strB (Lib.itoa v)=s
  ·have HN:Hid (numD s=some v):=by unfold Hid numD;rw [ha];simp only;rw [if_pos hq]
   go_enter Tryz.func44,Tryz.ntmps44
   go_wp2_with (first
    | (go_at_call 77;refine HAT.out.mono ?_;rintro e w1 ⟨⟨ev,rfl,hev⟩,hm1⟩;simp only [Bool.false_eq_true,if_false] at hev;subst hev)
    | (go_at_call 12;refine (HIT.out _ hm1).mono ?_;rintro e w2 ⟨rfl,hm2⟩)
    | fail)
   go_ret
   exact (NumP.yes HN.out).2 ⟨rfl,hm1.trans hm2⟩
  ·have HN:Hid (numD s=none):=by unfold Hid numD;rw [ha];simp only;rw [if_neg hq]
   have hne:((strB (Lib.itoa v)).toList == s.toList)=false:=by
    rw [beq_eq_false_iff_ne];exact fun e=>hq (yNu e)
   go_enter Tryz.func44,Tryz.ntmps44
   go_wp2_with (first
    | (go_at_call 77;refine HAT.out.mono ?_;rintro e w1 ⟨⟨ev,rfl,hev⟩,hm1⟩;simp only [Bool.false_eq_true,if_false] at hev;subst hev)
    | (go_at_call 12;refine (HIT.out _ hm1).mono ?_;rintro e w2 ⟨rfl,hm2⟩)
    | fail)
   exact ⟨rfl,(NumP.no HN.out).2 ⟨rfl,hm1.trans hm2⟩⟩
 | «syntax»=>
  have e1:zOw s=(0,true):=by unfold zOw;rw [ha]
  have HN:Hid (numD s=none):=by unfold Hid numD;rw [ha]
  rw [e1] at HAT
  go_enter Tryz.func44,Tryz.ntmps44
  go_wp2_with (first
   | (go_at_call 77;refine HAT.out.mono ?_;rintro e w1 ⟨⟨ev,rfl,hev⟩,hm1⟩;simp only [if_true] at hev;obtain ⟨N,rfl⟩:=hev)
   | fail)
  exact ⟨rfl,(NumP.no HN.out).2 ⟨rfl,hm1⟩⟩
 | range=>
  have e1:zOw s=(Lib.atoiSat s.data.toList,true):=by unfold zOw;rw [ha]
  have HN:Hid (numD s=none):=by unfold Hid numD;rw [ha]
  rw [e1] at HAT
  go_enter Tryz.func44,Tryz.ntmps44
  go_wp2_with (first
   | (go_at_call 77;refine HAT.out.mono ?_;rintro e w1 ⟨⟨ev,rfl,hev⟩,hm1⟩;simp only [if_true] at hev;obtain ⟨N,rfl⟩:=hev)
   | fail)
  exact ⟨rfl,(NumP.no HN.out).2 ⟨rfl,hm1⟩⟩
def zBr(s:ByteArray):List ByteArray:=Lib.goFieldsP (fun x=>x == 32) s
theorem yNw(x:Nat)(hx:x<=1114111)(w:World):Calls Tryz.prog 61 #[Value.int .i32 x] w fun e w'=>e=.returned (.bool (x == 32))/\w'=w:=by
 go_enter Tryz.func61,Tryz.ntmps61
 go_wp2_with fail
 go_ret
 refine ⟨?_,rfl⟩
 have:((x:Int) == 32)=(x == 32):=by
  by_cases h:x=32
  ·subst h;rfl
  ·rw [beq_eq_false_iff_ne.2 h,beq_eq_false_iff_ne.2 (by omega)]
 rw [this];rfl
theorem zRo(s:ByteArray)(hs:s.size<=1000000)(w:World):Calls Tryz.prog 32 #[.string s] w fun e w'=>∃ A,e=.returned (.slice (some ⟨A,0,none⟩) (zBr s).length (zBr s).length)/\w.heap.size<=A /\
   w'.ownsRow w.heap.size 9 1 (.slice (some ⟨A,0,none⟩) (zBr s).length (zBr s).length) (zBr s).length ((zBr s).map Value.string)/\Mod zAb w w':=by
 have HF:=Hmq (Tryz.strings_FieldsFunc_runes 61 #[] (fun _ _=>rfl) (fun x=>x == 32) s w (by omega) ?_)
 ·go_enter Tryz.func32,Tryz.ntmps32
  go_wp2_with (first
   | (go_at_call 60;refine HF.out.mono ?_;rintro e w1 ⟨A,rfl,hA,ho,hb⟩)
   | fail)
  go_ret
  exact ⟨A,rfl,hA,ho,Mod.since0 hb⟩
 ·intro W x hx _
  exact (yNw x hx W).mono (fun e w' ⟨h1,h2⟩=>⟨h1,0,by rw [h2];rfl⟩)
end Go.Proofs.YtogaigioeohjaaaGreatDoor
namespace Go.Proofs.YtogaigioeohjaaaGreatDoor
structure zKq(n n':zAl):Prop where
 id:n'.id=n.id
 ep:n'.epoch=n.epoch
 cf:n'.nodes=n.nodes
structure zWp(n:zAl)(m:MsgD):Prop where
 frm:m.frm=n.id
 ep:m.epoch=n.epoch
 kd:1<=m.kind/\m.kind<=4
 dst:m.to∈n.nodes
 fw:m.kind=3->∃ N:Nat,m.n=N/\n.log[N]?=some m.cmd
theorem zXi{s:zAl}{wh:Int}{k x:Int}(hk:1<=k/\k<=4)(h3:k≠3){m:MsgD}(h:m∈zGn s wh (zCh k x)):zWp s m/\m.kind=k:=by
 unfold zGn at h
 cases hn:nbrN s wh with
 | none=>rw [hn] at h;simp at h
 | some t=>
  rw [hn] at h
  simp only [List.mem_singleton] at h
  subst h
  exact ⟨⟨rfl,rfl,hk,zQz hn,fun e=>absurd e h3⟩,rfl⟩
theorem zJn(n:zAl):zKq n (zEd n).1/\(zEd n).1.log=n.log/\∀ m∈(zEd n).2,zWp (zEd n).1 m/\(m.kind=1\/m.kind=4):=by
 unfold zEd
 split
 ·exact ⟨⟨rfl,rfl,rfl⟩,rfl,fun m hm=>(zXi (k:=4) (by omega) (by omega) hm).imp id .inr⟩
 ·exact ⟨⟨rfl,rfl,rfl⟩,rfl,fun m hm=>(zXi (k:=1) (by omega) (by omega) hm).imp id .inl⟩
theorem zJv(n:zAl)(c:CmdD):zKq n (zFo n c).1/\(zFo n c).1.log=n.log++[c]/\∀ m∈(zFo n c).2,zWp (zFo n c).1 m:=by
 unfold zFo
 split
 ·obtain ⟨h1,h2,h3⟩:=zJn (logN n (n.log++[c]))
  exact ⟨⟨h1.id,h1.ep,h1.cf⟩,h2,fun m hm=>(h3 m hm).1⟩
 ·refine ⟨⟨rfl,rfl,rfl⟩,rfl,fun m hm=>?_⟩
  cases hn:nbrN n 1 with
  | none=>rw [hn] at hm;simp at hm
  | some t=>
   rw [hn] at hm
   simp only [List.mem_singleton] at hm
   subst hm
   exact ⟨rfl,rfl,by simp [fwdM],zQz hn,fun _=>⟨n.log.length,rfl,by simp [logN,fwdM]⟩⟩
theorem yTc{s:zAl}{f:Int}{m:MsgD}(h:m∈zOm s f):zWp s m:=by
 unfold zOm at h
 cases hn:nbrN s 1 with
 | none=>rw [hn] at h;simp at h
 | some t=>
  rw [hn] at h
  simp only [fwdL,List.mem_map,List.mem_range] at h
  obtain ⟨j,hj,rfl⟩:=h
  refine ⟨rfl,rfl,by simp [fwdM],zQz hn,fun _=>⟨f.toNat+j,rfl,?_⟩⟩
  have:f.toNat+j<s.log.length:=by omega
  simp [fwdM,List.getD_eq_getElem?_getD,List.getElem?_eq_getElem this]
theorem zRv(n:zAl)(m:MsgD):zKq n (zCt n m).1/\((zCt n m).1.log=n.log\/(m.kind=3/\isN n (-1) m.frm=true/\m.n=n.log.length/\n.log.length<500/\(zCt n m).1.log=n.log++[m.cmd]))/\∀ m'∈(zCt n m).2,zWp (zCt n m).1 m':=by
 unfold zCt
 split
 ·split
  ·exact ⟨⟨rfl,rfl,rfl⟩,.inl rfl,fun m' hm=>(zXi (k:=2) (by omega) (by omega) hm).1⟩
  ·split
   ·exact ⟨⟨rfl,rfl,rfl⟩,.inl rfl,fun m' hm=>yTc hm⟩
   ·split
    ·rename_i h
     obtain ⟨h1,h2,h3⟩:=zJv n m.cmd
     exact ⟨h1,.inr ⟨h.1,h.2.1,h.2.2.1,h.2.2.2,h2⟩,h3⟩
    ·split
     ·exact ⟨⟨rfl,rfl,rfl⟩,.inl rfl,fun m' hm=>(zXi (k:=4) (by omega) (by omega) hm).1⟩
     ·exact ⟨⟨rfl,rfl,rfl⟩,.inl rfl,fun m' hm=>by simp at hm⟩
 ·exact ⟨⟨rfl,rfl,rfl⟩,.inl rfl,fun m' hm=>by simp at hm⟩
theorem zZm{s:NetS}{a m:MsgD}(h:m∈(zFe s a).way):m∈s.way\/m=a:=by
 unfold zFe at h
 split at h
 ·exact .inl h
 ·simpa using h
theorem zNv:∀ {ms:List MsgD} {s:NetS} {m:MsgD},m∈(zFd s ms).way->m∈s.way\/m∈ms
 | [],s,m,h=>.inl h
 | a :: ms,s,m,h=>by
  rcases zNv (ms:=ms) (s:=zFe s a) h with q | q
  ·rcases zZm q with q | q
   ·exact .inl q
   ·exact .inr (by simp [q])
  ·exact .inr (by simp [q])
theorem zJr{α:Type}{R:α->α->Prop}{l:List α}:l.Pairwise R↔∀ (i j:Nat) a b,i<j->l[i]?=some a->l[j]?=some b->R a b:=by
 rw [List.pairwise_iff_getElem]
 constructor
 ·intro h i j a b hij ha hb
  obtain ⟨h1,h2⟩:=List.getElem?_eq_some_iff.1 ha
  obtain ⟨h3,h4⟩:=List.getElem?_eq_some_iff.1 hb
  have:=h i j h1 h3 hij
  rwa [h2,h4] at this
 ·intro h i j hi hj hij
  exact h i j _ _ hij (List.getElem?_eq_getElem hi) (List.getElem?_eq_getElem hj)
structure zGv(k:Nat)(l:zCs):Prop where
 ne:l.nodes≠[]
 ord:l.nodes.Pairwise fun a b=>a.id<b.id/\b.log <+: a.log
 rng:∀ n∈l.nodes,10*(k:Int)<=n.id/\n.id<10*(k:Int)+4
 cfg:∀ n∈l.nodes,n.nodes=l.nodes.map (·.id)
 ep:∃ E:Int,1<=E/\E+l.nodes.length<=6/\∀ n∈l.nodes,n.epoch=E
 heard:∀ n∈l.nodes,l.heard<=n.log.length
 few:∀ n∈l.nodes,n.log.length<=500
theorem yIm{l:List zAl}(h:l.Pairwise fun a b=>a.id<b.id){j:Nat}{n:zAl}(hj:l[j]?=some n):zGt n.id (l.map (·.id))=some j:=by
 refine zTb _ _ _ (fun i y hi hy=>?_) (by simp [hj])
 simp only [List.getElem?_map,Option.map_eq_some_iff] at hy
 obtain ⟨a,ha,rfl⟩:=hy
 have:=zJr.1 h i j a n hi ha hj
 omega
theorem zGv.place{k:Nat}{l:zCs}(h:zGv k l){j:Nat}{n:zAl}(hj:l.nodes[j]?=some n):zGz n=j:=by
 unfold zGz
 rw [h.cfg n (List.mem_of_getElem? hj),yIm (h.ord.imp fun q=>q.1) hj];rfl
theorem zGv.inN{k:Nat}{l:zCs}(h:zGv k l){n:zAl}(hn:n∈l.nodes):inN n=true:=by
 obtain ⟨j,hj⟩:=List.getElem?_of_mem hn
 unfold Go.Proofs.YtogaigioeohjaaaGreatDoor.inN
 rw [h.place hj];simp
theorem zGv.nbr{k:Nat}{l:zCs}(h:zGv k l){j:Nat}{n:zAl}(hj:l.nodes[j]?=some n){wh:Int}{x:Int}(hx:nbrN n wh=some x):∃ (i:Nat) (a:zAl),(i:Int)=j+wh/\l.nodes[i]?=some a/\a.id=x:=by
 unfold nbrN at hx
 split at hx
 ·rename_i e
  rw [h.place hj] at e hx
  rw [h.cfg n (List.mem_of_getElem? hj)] at hx
  simp only [Bool.and_eq_true,decide_eq_true_eq] at e
  simp only [List.getElem?_map,Option.map_eq_some_iff] at hx
  obtain ⟨a,ha,rfl⟩:=hx
  exact ⟨_,a,by omega,ha,rfl⟩
 ·cases hx
theorem zGv.set{k:Nat}{l:zCs}(h:zGv k l){j:Nat}{n n':zAl}(hj:l.nodes[j]?=some n)(hg:zKq n n')(hl:n.log <+: n'.log)(hf:n'.log.length<=500)(hp:∀ (i:Nat) p,i<j->l.nodes[i]?=some p->n'.log <+: p.log):zGv k ⟨l.nodes.set j n',l.heard⟩:=by
 have hm:=List.mem_of_getElem? hj
 have hjl:=(List.getElem?_eq_some_iff.1 hj).1
 have hmem:∀ x,x∈l.nodes.set j n'->x=n'\/x∈l.nodes:=fun x hx=>by
  rcases List.mem_or_eq_of_mem_set hx with q | q
  ·exact .inr q
  ·exact .inl q
 have hids:(l.nodes.set j n').map (·.id)=l.nodes.map (·.id):=by
  rw [List.map_set]
  refine List.ext_getElem? fun i=>?_
  rw [zDn]
  split
  ·rename_i e
   rw [e.1]
   simp [hj,hg.id]
  ·rfl
 refine ⟨fun e=>?_,?_,fun x hx=>?_,fun x hx=>?_,?_,fun x hx=>?_,fun x hx=>?_⟩
 ·have:=congrArg List.length e
  simp at this
  exact h.ne this
 ·rw [zJr]
  intro i i' a b hii ha hb
  rw [zDn] at ha hb
  have hpw:=zJr.1 h.ord
  by_cases e1:i=j
  ·rw [if_pos ⟨e1,by omega⟩] at ha
   rw [if_neg (by omega)] at hb
   cases ha
   subst e1
   have:=hpw i i' n b hii hj hb
   exact ⟨by rw [hg.id];exact this.1,this.2.trans hl⟩
  ·rw [if_neg (fun q=>e1 q.1)] at ha
   by_cases e2:i'=j
   ·rw [if_pos ⟨e2,by omega⟩] at hb
    cases hb
    subst e2
    have:=hpw i i' a n hii ha hj
    exact ⟨by rw [hg.id];exact this.1,hp i a hii ha⟩
   ·rw [if_neg (fun q=>e2 q.1)] at hb
    exact hpw i i' a b hii ha hb
 ·rcases hmem x hx with q | q
  ·rw [q,hg.id];exact h.rng n hm
  ·exact h.rng x q
 ·show x.nodes=(l.nodes.set j n').map (·.id)
  rw [hids]
  rcases hmem x hx with q | q
  ·rw [q,hg.cf];exact h.cfg n hm
  ·exact h.cfg x q
 ·obtain ⟨E,h1,h2,h3⟩:=h.ep
  refine ⟨E,h1,by simpa using h2,fun x hx=>?_⟩
  rcases hmem x hx with q | q
  ·rw [q,hg.ep];exact h3 n hm
  ·exact h3 x q
 ·rcases hmem x hx with q | q
  ·rw [q];exact Nat.le_trans (h.heard n hm) hl.length_le
  ·exact h.heard x q
 ·rcases hmem x hx with q | q
  ·rw [q];exact hf
  ·exact h.few x q
theorem zGv.take{k:Nat}{l:zCs}(h:zGv k l){a b:zAl}(ha:a∈l.nodes)(hb:b∈l.nodes):a.log.take l.heard=b.log.take l.heard:=by
 obtain ⟨i,hi⟩:=List.getElem?_of_mem ha
 obtain ⟨j,hj⟩:=List.getElem?_of_mem hb
 have key:∀ {x y:List CmdD},y <+: x->l.heard<=y.length->x.take l.heard=y.take l.heard:=fun {x y} hxy hl=>by
  obtain ⟨t,rfl⟩:=hxy
  rw [List.take_append_of_le_length hl]
 rcases Nat.lt_trichotomy i j with q | q | q
 ·exact key (zJr.1 h.ord i j a b q hi hj).2 (h.heard b hb)
 ·subst q;rw [hi] at hj;cases hj;rfl
 ·exact (key (zJr.1 h.ord j i b a q hj hi).2 (h.heard a ha)).symm
theorem zYb{l:List zAl}(h:l≠[])(d:zAl):l.getLastD d∈l:=by
 cases l with
 | nil=>exact absurd rfl h
 | cons a l=>rw [zEw _ _ (by simp)];exact List.getElem_mem _
theorem zGv.last{k:Nat}{l:zCs}(h:zGv k l)(d:zAl){n:zAl}(hn:n∈l.nodes):(l.nodes.getLastD d).log <+: n.log:=by
 obtain ⟨i,hi⟩:=List.getElem?_of_mem hn
 have hlt:=(List.getElem?_eq_some_iff.1 hi).1
 rw [zEw l.nodes d (by omega)]
 by_cases e:i=l.nodes.length - 1
 ·subst e
  rw [List.getElem?_eq_getElem (by omega)] at hi
  cases hi
  exact List.prefix_refl _
 ·exact (zJr.1 h.ord i (l.nodes.length - 1) n _ (by omega) hi (List.getElem?_eq_getElem (by omega))).2
structure zTu(s:zAa)(k:Nat)(c:CmdD):Prop where
 lo:1<=c.tx
 hi:c.tx<=(s.txs.length:Int)
 dec:k=decH s->c.kind=3/\(1<=c.time/\c.time<=501)/\((s.tx c.tx.toNat).state=2\/(s.tx c.tx.toNat).state=3)/\zIx (s.tx c.tx.toNat)=true
 shard:k≠decH s->(c.kind=2/\(s.tx c.tx.toNat).state≠1/\(s.tx c.tx.toNat).ats.getD k 0≠0)\/(c.kind=3/\(s.tx c.tx.toNat).state=3/\1<=c.time)\/(c.kind=4/\(s.tx c.tx.toNat).state=4)
structure zQv(s:zAa)(k:Nat)(log:List CmdD):Prop where
 all:∀ c∈log,zTu s k c
 one:log.Pairwise fun a b=>¬ (a.kind=b.kind/\a.tx=b.tx)
 prep:k≠decH s->∀ (i:Nat) c,log[i]?=some c->c.kind=3->∃ (j:Nat) (p:CmdD),j<i/\log[j]?=some p/\p.kind=2/\p.tx=c.tx
def zFr(s:zAa)(k:Nat):List CmdD:=(zAp s k).log.take (s.line k).heard
def hasC(l:List CmdD)(kind:Int)(id:Nat):Prop:=∃ c∈l,c.kind=kind/\c.tx=(id:Int)
structure TxOK(s:zAa)(id:Nat):Prop where
 len:(s.tx id).ats.length=s.lines.length
 st:1<=(s.tx id).state/\(s.tx id).state<=4
 rng:∀ k,0<=(s.tx id).ats.getD k 0/\(s.tx id).ats.getD k 0<=2
 dec:(s.tx id).ats.getD (decH s) 0=0
 op:(s.tx id).state=1->∀ k,(s.tx id).ats.getD k 0≠2
 sure:∀ k,k<decH s->(s.tx id).ats.getD k 0=2->hasC (zFr s k) 2 id
 com:(s.tx id).state=3->zIx (s.tx id)=true/\1<=(s.tx id).time/\hasC (zFr s (decH s)) 3 id
 tm:0<=(s.tx id).time/\(s.tx id).time<=501
 few:(s.tx id).writes.length<=20/\∀ p∈(s.tx id).writes,p.key.size<=20
def yCk(s:zAa)(m:MsgD):Prop:=m.kind=3->∀ k,k<s.lines.length->∀ n∈(s.line k).nodes,n.id=m.frm->∃ N:Nat,m.n=N/\n.log[N]?=some m.cmd
structure Safe(s:zAa):Prop where
 ll:2<=s.lines.length/\s.lines.length<=5
 tl:s.txs.length<=60
 line:∀ k,k<s.lines.length->zGv k (s.line k)
 log:∀ k,k<s.lines.length->zQv s k (zAp s k).log
 msg:∀ m∈s.net.way,yCk s m
 tx:∀ id,1<=id->id<=s.txs.length->TxOK s id
theorem zQv.pre{s:zAa}{k:Nat}{l l':List CmdD}(h:zQv s k l)(hp:l' <+: l):zQv s k l':=by
 obtain ⟨t,rfl⟩:=hp
 refine ⟨fun c hc=>h.all c (List.mem_append_left _ hc),(List.pairwise_append.1 h.one).1,fun hk i c hi hc=>?_⟩
 have hil:=(List.getElem?_eq_some_iff.1 hi).1
 obtain ⟨j,p,hj,hp,h1,h2⟩:=h.prep hk i c (by rw [List.getElem?_append_left hil];exact hi) hc
 exact ⟨j,p,hj,by rw [List.getElem?_append_left (by omega)] at hp;exact hp,h1,h2⟩
theorem zSe{s:zAa}{k:Nat}(h:(s.line k).nodes≠[]):(s.line k).nodes[0]?=some (zAp s k):=by
 unfold zAp
 cases hn:(s.line k).nodes with
 | nil=>exact absurd hn h
 | cons a l=>rfl
theorem Safe.head{s:zAa}(h:Safe s){k:Nat}(hk:k<s.lines.length):(s.line k).nodes[0]?=some (zAp s k):=zSe (h.line k hk).ne
theorem Safe.head_mem{s:zAa}(h:Safe s){k:Nat}(hk:k<s.lines.length):zAp s k∈(s.line k).nodes:=List.mem_of_getElem? (h.head hk)
theorem Safe.pre0{s:zAa}(h:Safe s){k:Nat}(hk:k<s.lines.length){n:zAl}(hn:n∈(s.line k).nodes):n.log <+: (zAp s k).log:=by
 obtain ⟨i,hi⟩:=List.getElem?_of_mem hn
 cases i with
 | zero=>rw [h.head hk] at hi;cases hi;exact List.prefix_refl _
 | succ i=>exact (zJr.1 (h.line k hk).ord 0 (i+1) _ _ (by omega) (h.head hk) hi).2
theorem Safe.logs{s:zAa}(h:Safe s){k:Nat}(hk:k<s.lines.length){n:zAl}(hn:n∈(s.line k).nodes):zQv s k n.log:=(h.log k hk).pre (h.pre0 hk hn)
theorem Safe.heardAt{s:zAa}(h:Safe s){k:Nat}(hk:k<s.lines.length){n:zAl}(hn:n∈(s.line k).nodes):n.log.take (s.line k).heard=zFr s k:=(h.line k hk).take hn (h.head_mem hk)
theorem Safe.dec_lt{s:zAa}(h:Safe s):decH s<s.lines.length:=by have:=h.ll.1;unfold decH;omega
theorem Safe.free{s:zAa}(h:Safe s){i:Nat}(ho:(s.tx i).state=1){k:Nat}(hk:k<s.lines.length){c:CmdD}(hc:c∈(zAp s k).log):c.tx≠(i:Int):=fun e=>by
 have q:=(h.log k hk).all c hc
 have e2:c.tx.toNat=i:=by omega
 by_cases hd:k=decH s
 ·have:=(q.dec hd).2.2.1
  rw [e2] at this;omega
 ·have:=q.shard hd
  rw [e2] at this;omega
theorem Safe.inj{s:zAa}(h:Safe s){k k':Nat}(hk:k<s.lines.length)(hk':k'<s.lines.length){n n':zAl}(hn:n∈(s.line k).nodes)(hn':n'∈(s.line k').nodes)(e:n.id=n'.id):k=k'/\n=n':=by
 have h1:=(h.line k hk).rng n hn
 have h2:=(h.line k' hk').rng n' hn'
 have hkk:k=k':=by omega
 subst hkk
 refine ⟨rfl,?_⟩
 obtain ⟨i,hi⟩:=List.getElem?_of_mem hn
 obtain ⟨j,hj⟩:=List.getElem?_of_mem hn'
 have hpw:=zJr.1 (h.line k hk).ord
 rcases Nat.lt_trichotomy i j with q | q | q
 ·have:=(hpw i j _ _ q hi hj).1;omega
 ·subst q;rw [hi] at hj;cases hj;rfl
 ·have:=(hpw j i _ _ q hj hi).1;omega
theorem Safe.sent{s:zAa}(h:Safe s){k:Nat}(hk:k<s.lines.length){n:zAl}(hn:n∈(s.line k).nodes){m:MsgD}(hm:zWp n m):yCk s m:=fun h3 k' hk' n' hn' e=>by
 obtain ⟨-,rfl⟩:=h.inj hk hk' hn hn' (by rw [e,hm.frm])
 exact hm.fw h3
theorem Safe.send{s:zAa}(h:Safe s){ms:List MsgD}(hm:∀ m∈ms,yCk s m):Safe (zLb s ms):=
 ⟨h.ll,h.tl,h.line,fun k hk=>⟨fun c hc=>⟨((h.log k hk).all c hc).lo,((h.log k hk).all c hc).hi,((h.log k hk).all c hc).dec,((h.log k hk).all c hc).shard⟩,(h.log k hk).one,(h.log k hk).prep⟩,
  fun m hmm=>(zNv hmm).elim (h.msg m) (hm m),fun id h1 h2=>(have q:=h.tx id h1 h2;⟨q.len,q.st,q.rng,q.dec,q.op,q.sure,q.com,q.tm,q.few⟩)⟩
theorem Safe.way{s:zAa}(h:Safe s){net:NetS}(hm:∀ m∈net.way,m∈s.net.way):Safe { s with net:=net }:=
 ⟨h.ll,h.tl,h.line,fun k hk=>⟨fun c hc=>⟨((h.log k hk).all c hc).lo,((h.log k hk).all c hc).hi,((h.log k hk).all c hc).dec,((h.log k hk).all c hc).shard⟩,(h.log k hk).one,(h.log k hk).prep⟩,
  fun m hmm=>h.msg m (hm m hmm),fun id h1 h2=>(have q:=h.tx id h1 h2;⟨q.len,q.st,q.rng,q.dec,q.op,q.sure,q.com,q.tm,q.few⟩)⟩
theorem zEa(s:zAa){k:Nat}(hk:k<s.lines.length)(j:Nat)(n:zAl)(i:Nat):(setNode s k j n).line i=if i=k then ⟨(s.line k).nodes.set j n,(s.line k).heard⟩ else s.line i:=zOi s k _ i hk
theorem zIl(s:zAa)(k j:Nat)(n:zAl):(setNode s k j n).lines.length=s.lines.length:=by simp [setNode,setLine]
theorem zRz(s:zAa)(k j:Nat)(n:zAl):decH (setNode s k j n)=decH s:=by unfold decH;rw [zIl]
theorem zKd{s:zAa}{k:Nat}(hk:k<s.lines.length)(hne:(s.line k).nodes≠[])(j:Nat)(n:zAl)(i:Nat):zAp (setNode s k j n) i=if i=k/\j=0 then n else zAp s i:=by
 unfold zAp
 rw [zEa s hk]
 by_cases e:i=k
 ·subst e
  rw [if_pos rfl]
  show ((s.line i).nodes.set j n).getD 0 _=_
  rw [List.getD_eq_getElem?_getD,zDn]
  by_cases e2:j=0
  ·subst e2
   rw [if_pos ⟨rfl,by have:=List.length_pos_iff.2 hne;omega⟩,if_pos ⟨rfl,rfl⟩];rfl
  ·rw [if_neg (by omega),if_neg (by omega),List.getD_eq_getElem?_getD]
 ·rw [if_neg e,if_neg (fun q=>e q.1)]
theorem zTu.of{s s':zAa}{k:Nat}{c:CmdD}(h:zTu s k c)(ht:s'.txs=s.txs)(hd:decH s'=decH s):zTu s' k c:=by
 have e:∀ i,s'.tx i=s.tx i:=fun i=>by unfold zAa.tx;rw [ht]
 exact ⟨h.lo,by rw [ht];exact h.hi,by rw [hd,e];exact h.dec,by rw [hd,e];exact h.shard⟩
theorem zQv.of{s s':zAa}{k:Nat}{l:List CmdD}(h:zQv s k l)(ht:s'.txs=s.txs)(hd:decH s'=decH s):zQv s' k l:=
 ⟨fun c hc=>(h.all c hc).of ht hd,h.one,by rw [hd];exact h.prep⟩
theorem TxOK.of{s s':zAa}{id:Nat}(h:TxOK s id)(ht:s'.txs=s.txs)(hl:s'.lines.length=s.lines.length)(hh:∀ k,k<s.lines.length->zFr s' k=zFr s k)(hd:decH s<s.lines.length):TxOK s' id:=by
 have e:s'.tx id=s.tx id:=by unfold zAa.tx;rw [ht]
 have ed:decH s'=decH s:=by unfold decH;rw [hl]
 refine ⟨by rw [e,hl];exact h.len,by rw [e];exact h.st,by rw [e];exact h.rng,by rw [e,ed];exact h.dec,by rw [e];exact h.op,fun k hk ha=>?_,fun hs=>?_,by rw [e];exact h.tm,by rw [e];exact h.few⟩
 ·rw [ed] at hk;rw [e] at ha;rw [hh k (by omega)];exact h.sure k hk ha
 ·rw [e] at hs ⊢;rw [ed,hh _ hd];exact h.com hs
theorem Safe.node{s:zAa}(h:Safe s){k j:Nat}(hk:k<s.lines.length){n n':zAl}(hj:(s.line k).nodes[j]?=some n)(hg:zKq n n')(hl:n.log <+: n'.log)(hf:n'.log.length<=500)
  (hp:∀ (i:Nat) p,i<j->(s.line k).nodes[i]?=some p->n'.log <+: p.log) (h0:j=0->zQv s k n'.log):Safe (setNode s k j n'):=by
 have hL:=h.line k hk
 have hn0:=fun i=>zKd hk hL.ne j n' i
 have hln:=fun i=>zEa s hk j n' i
 have hlen:=zIl s k j n'
 have hheard:∀ i,i<s.lines.length->zFr (setNode s k j n') i=zFr s i:=fun i hi=>by
  unfold zFr
  rw [hn0,hln]
  by_cases e:i=k
  ·subst e
   rw [if_pos rfl]
   by_cases e2:j=0
   ·subst e2
    rw [h.head hi] at hj;cases hj
    rw [if_pos ⟨rfl,rfl⟩]
    obtain ⟨t,ht⟩:=hl
    rw [<-ht]
    exact List.take_append_of_le_length (hL.heard _ (h.head_mem hi))
   ·rw [if_neg (fun q=>e2 q.2)]
  ·rw [if_neg e,if_neg (fun q=>e q.1)]
 refine ⟨by rw [hlen];exact h.ll,h.tl,fun i hi=>?_,fun i hi=>?_,fun m hm h3 i hi x hx hxe=>?_,fun id h1 h2=>(h.tx id h1 h2).of rfl hlen hheard h.dec_lt⟩
 ·rw [hlen] at hi
  rw [hln]
  by_cases e:i=k
  ·subst e;rw [if_pos rfl];exact hL.set hj hg hl hf hp
  ·rw [if_neg e];exact h.line i hi
 ·rw [hlen] at hi
  rw [hn0]
  by_cases e:i=k/\j=0
  ·rw [if_pos e];rw [e.1];exact (h0 e.2).of rfl (zRz _ _ _ _)
  ·rw [if_neg e];exact (h.log i hi).of rfl (zRz _ _ _ _)
 ·rw [hlen] at hi
  rw [hln] at hx
  have hmsg:=h.msg m hm h3
  by_cases e:i=k
  ·subst e
   rw [if_pos rfl] at hx
   rcases List.mem_or_eq_of_mem_set hx with q | q
   ·exact hmsg i hi x q hxe
   ·subst q
    obtain ⟨N,e1,e2⟩:=hmsg i hi n (List.mem_of_getElem? hj) (by rw [<-hg.id];exact hxe)
    refine ⟨N,e1,?_⟩
    obtain ⟨t,ht⟩:=hl
    rw [<-ht,List.getElem?_append_left (List.getElem?_eq_some_iff.1 e2).1]
    exact e2
  ·rw [if_neg e] at hx
   exact hmsg i hi x hx hxe
theorem Safe.txs{s s':zAa}(h:Safe s)(hl:s'.lines=s.lines)(hn:s'.net=s.net)(ht:s'.txs.length<=60)(hc:∀ k c,k<s.lines.length->c∈(zAp s k).log->zTu s k c->zTu s' k c)(hx:∀ id,1<=id->id<=s'.txs.length->TxOK s' id):Safe s':=by
 have e1:∀ k,s'.line k=s.line k:=fun k=>by unfold zAa.line;rw [hl]
 have e2:∀ k,zAp s' k=zAp s k:=fun k=>by unfold zAp;rw [e1]
 have e3:decH s'=decH s:=by unfold decH;rw [hl]
 refine ⟨by rw [hl];exact h.ll,ht,fun k hk=>by rw [hl] at hk;rw [e1];exact h.line k hk,fun k hk=>?_,fun m hm=>?_,hx⟩
 ·rw [hl] at hk;rw [e2]
  have q:=h.log k hk
  exact ⟨fun c hc'=>hc k c hk hc' (q.all c hc'),q.one,by rw [e3];exact q.prep⟩
 ·rw [hn] at hm
  have q:=h.msg m hm
  unfold yCk at q ⊢
  rw [hl]
  simp only [e1]
  exact q
theorem yBc{s s':zAa}(hl:s'.lines=s.lines)(k:Nat):zFr s' k=zFr s k:=by
 have e1:s'.line k=s.line k:=by unfold zAa.line;rw [hl]
 unfold zFr zAp;rw [e1]
theorem TxOK.same{s s':zAa}{id:Nat}(h:TxOK s id)(e:s'.tx id=s.tx id)(hl:s'.lines=s.lines):TxOK s' id:=by
 have ed:decH s'=decH s:=by unfold decH;rw [hl]
 refine ⟨by rw [e,hl];exact h.len,by rw [e];exact h.st,by rw [e];exact h.rng,by rw [e,ed];exact h.dec,by rw [e];exact h.op,fun k hk ha=>?_,fun hs=>?_,by rw [e];exact h.tm,by rw [e];exact h.few⟩
 ·rw [ed] at hk;rw [e] at ha;rw [yBc hl];exact h.sure k hk ha
 ·rw [e] at hs ⊢;rw [ed,yBc hl];exact h.com hs
theorem zJp(s:zAa)(id:Nat)(t:TxS){j:Nat}(hj:1<=j)(hid:1<=id)(hl:id<=s.txs.length):(setTx s id t).tx j=if j=id then t else s.tx j:=by
 by_cases e:j=id
 ·subst e;rw [if_pos rfl];exact zFx s t hj hl
 ·rw [if_neg e];exact zFb s t (by omega)
theorem zTu.same{s s':zAa}{k:Nat}{c:CmdD}(h:zTu s k c)(ht:s'.txs.length=s.txs.length)(hl:s'.lines=s.lines)(e:s'.tx c.tx.toNat=s.tx c.tx.toNat):zTu s' k c:=by
 have ed:decH s'=decH s:=by unfold decH;rw [hl]
 exact ⟨h.lo,by rw [ht];exact h.hi,by rw [ed,e];exact h.dec,by rw [ed,e];exact h.shard⟩
theorem Safe.setOpen{s:zAa}(h:Safe s){id:Nat}{t:TxS}(h1:1<=id)(h2:id<=s.txs.length)(ho:(s.tx id).state=1){keys:Tab}(hx:TxOK { setTx s id t with keys:=keys } id):Safe { setTx s id t with keys:=keys }:=by
 refine h.txs (s':={ setTx s id t with keys:=keys }) rfl rfl (by show (setTx s id t).txs.length<=60;rw [zBd];exact h.tl) (fun k c hk hc q=>?_) (fun j hj1 hj2=>?_)
 ·have hne:=h.free ho hk hc
  have hlo:=q.lo
  refine q.same (zBd s id t) rfl ?_
  exact zFb s t (by omega)
 ·by_cases e:j=id
  ·rw [e];exact hx
  ·have hj2':j<=s.txs.length:=by have:=zBd s id t;have:j<=(setTx s id t).txs.length:=hj2;omega
   exact (h.tx j hj1 hj2').same (zFb s t (by omega)) rfl
theorem zOo(l:List Int)(k:Nat):(l.map fun _=>(0:Int)).getD k 0=0:=by
 rw [List.getD_eq_getElem?_getD,List.getElem?_map]
 cases l[k]? <;> rfl
theorem zLe{t:TxS}:zIx t=true↔∀ k,t.ats.getD k 0≠1:=by
 unfold zIx
 simp only [Bool.not_eq_true',decide_eq_false_iff_not]
 constructor
 ·intro h k e
  rw [List.getD_eq_getElem?_getD] at e
  cases hk:t.ats[k]? with
  | none=>rw [hk] at e;simp at e
  | some x=>rw [hk] at e;simp at e;subst e;exact h (List.mem_of_getElem? hk)
 ·intro h hm
  obtain ⟨k,hk⟩:=List.getElem?_of_mem hm
  exact h k (by rw [List.getD_eq_getElem?_getD,hk];rfl)
theorem Safe.abort{s:zAa}(h:Safe s){id:Nat}(h1:1<=id)(h2:id<=s.txs.length)(ho:(s.tx id).state=1):Safe (zBh s id):=by
 have hx:=h.tx id h1 h2
 have e:zBh s id={ setTx s id { s.tx id with state:=4,ats:=(s.tx id).ats.map fun _=>0,writes:=[] } with keys:=relN s.keys id }:=by
  unfold zBh zDe
  rw [if_pos ho,zFx s _ h1 h2]
  simp only [setTx,List.set_set]
 rw [e]
 refine h.setOpen h1 h2 ho ?_
 have et:=zFx s { s.tx id with state:=4,ats:=(s.tx id).ats.map fun _=>0,writes:=[] } h1 h2
 have et':({ setTx s id { s.tx id with state:=4,ats:=(s.tx id).ats.map fun _=>0,writes:=[] } with keys:=relN s.keys id }:zAa).tx id={ s.tx id with state:=4,ats:=(s.tx id).ats.map fun _=>0,writes:=[] }:=et
 refine ⟨?_,?_,?_,?_,?_,?_,?_,?_,?_⟩
 all_goals rw [et']
 ·show (List.map _ _).length=s.lines.length;rw [List.length_map];exact hx.len
 ·simp
 ·intro k;show 0<=(List.map _ _).getD k 0/\(List.map _ _).getD k 0<=2;rw [zOo];omega
 ·exact zOo _ _
 ·intro hs;simp at hs
 ·intro k _ hk;rw [show ((s.tx id).ats.map fun _=>(0:Int)).getD k 0=0 from zOo _ _] at hk;omega
 ·intro hs;simp at hs
 ·exact hx.tm
 ·simp
theorem Safe.abort2{s:zAa}(h:Safe s){id:Nat}(h1:1<=id)(h2:id<=s.txs.length)(ho:(s.tx id).state=2)(hr:zIx (s.tx id)=false):Safe (zBh s id):=by
 have hx:=h.tx id h1 h2
 have e:zBh s id={ setTx s id { s.tx id with state:=4,writes:=[] } with keys:=relN s.keys id }:=by
  unfold zBh zDe
  rw [if_neg (by omega)]
 rw [e]
 have et:({ setTx s id { s.tx id with state:=4,writes:=[] } with keys:=relN s.keys id }:zAa).tx id={ s.tx id with state:=4,writes:=[] }:=zFx s _ h1 h2
 refine h.txs (s':={ setTx s id { s.tx id with state:=4,writes:=[] } with keys:=relN s.keys id }) rfl rfl (by show (setTx s id _).txs.length<=60;rw [zBd];exact h.tl) (fun k c hk hc q=>?_) (fun j hj1 hj2=>?_)
 ·by_cases e2:c.tx.toNat=id
  ·refine ⟨q.lo,by show c.tx<=((setTx s id _).txs.length:Int);rw [zBd];exact q.hi,fun hd=>?_,fun hd=>?_⟩
   ·have:=(q.dec hd).2.2.2
    rw [e2,hr] at this;cases this
   ·rw [e2,et]
    rcases q.shard hd with ⟨q1,q2,q3⟩ | ⟨q1,q2,q3⟩ | ⟨q1,q2⟩
    ·rw [e2] at q3;exact .inl ⟨q1,by simp,q3⟩
    ·rw [e2] at q2;omega
    ·rw [e2] at q2;omega
  ·have hlo:=q.lo
   exact q.same (zBd s id _) rfl (zFb s _ (by omega))
 ·by_cases e2:j=id
  ·subst e2
   refine ⟨?_,?_,?_,?_,?_,?_,?_,?_,?_⟩
   all_goals rw [et]
   ·exact hx.len
   ·simp
   ·exact hx.rng
   ·exact hx.dec
   ·intro hs;simp at hs
   ·exact hx.sure
   ·intro hs;simp at hs
   ·exact hx.tm
   ·simp
  ·have hj2':j<=s.txs.length:=by have:j<=(setTx s id _).txs.length:=hj2;rw [zBd] at this;exact this
   exact (h.tx j hj1 hj2').same (zFb s _ (by omega)) rfl
end Go.Proofs.YtogaigioeohjaaaGreatDoor
