import Derived.Test.YtmaiggbnceejiaaGreatDoorProg
import Derived.Test.YtmaiggbnceejiaaGreatDoorP09
import Derived.WalkKit
import Derived.Lib.AppendStr
import Derived.Deep.RegionLaw
import Derived.Deep.AppendLies
import Derived.Deep.DeepCutAuto
import Derived.Deep.Strs
import Derived.Deep.Slices
import Derived.OpenShut
import Derived.Maps.OwnSet
import Derived.Maps.AppendAt
import Derived.RegionTactic
import Derived.ChangeAlike
import Derived.Laws.IdiomCopy
import Derived.Deep.CutBlock
import Derived.Lib.SliceRun
set_option linter.unusedVariables false
set_option maxRecDepth 100000
set_option maxHeartbeats 16000000
namespace Go.Proofs.YtmaiggbnceejiaaGreatDoor
open Go.RowKit Go.Lib Go.Maps
theorem Hmq{p:Prop}(h:p):Hid p:=h
def clmR(d:ClmD)(cs:List Value):Prop:=cs=[.int .i64 d.tx,.int .i64 d.mode]
def zPc(w:World)(L:Nat)(v:Value)(l:List ClmD):Prop:=SlR w L 2 clmR v l
theorem zPc.mod{G:Nat->Prop}{w w':World}{L:Nat}{v:Value}{l:List ClmD}(h:zPc w L v l)(hm:Mod G w w')(hG:∀ k,k<L->¬ G k):zPc w' L v l:=SlR.mod h hm hG (fun _ _ h=>h)
theorem zPc.at{w:World}{L:Nat}{a:Option Addr}{n cap:Nat}{l:List ClmD}(h:zPc w L (.slice a n cap) l){i:Nat}{d:ClmD}(hi:l[i]?=some d) :
  ∃ b off,a=some ⟨b,off,none⟩/\b<L/\w.cell? ⟨b,off+i*2,none⟩=some (.int .i64 d.tx)/\w.cell? ⟨b,off+i*2+1,none⟩=some (.int .i64 d.mode):=by
 obtain ⟨b,off,cs,h1,h2,rfl,_,h5⟩:=SlR.at h hi
 exact ⟨b,off,h1,h2,by have:=h5 0 _ rfl;simpa using this,h5 1 _ rfl⟩
def cmpI(x y:Int):Int:=if x<y then -1 else if x > y then 1 else 0
theorem zZz(x:Int)(w:World):Calls Tryz.prog 180 #[.int .i64 x] w fun e w'=>e=.returned (.bool false)/\w'=w:=by
 go_enter Tryz.func180,Tryz.ntmps180
 go_wp2_with fail
 go_ret
 exact ⟨by simp,rfl⟩
theorem yPa(x y:Int)(w:World):Calls Tryz.prog 170 #[.int .i64 x,.int .i64 y] w fun e w'=>e=.returned (.int .i64 (cmpI x y))/\w'=w:=by
 have H1:=Hmq (zZz x w)
 have H2:=Hmq (zZz y w)
 have HC:Hid (cmpI x y=if x<y then -1 else if x > y then 1 else 0):=rfl
 generalize cmpI x y=z at HC
 by_cases h1:x<y
 ·have hz:z = -1:=by rw [HC.out,if_pos h1]
  subst hz
  clear HC
  go_enter Tryz.func170,Tryz.ntmps170
  go_wp2_with fail
  refine H1.out.mono ?_
  rintro e w1 ⟨rfl,rfl⟩
  go_wp2_with fail
  refine H2.out.mono ?_
  rintro e w1 ⟨rfl,rfl⟩
  go_wp2_with fail
  go_ret
  exact ⟨rfl,rfl⟩
 ·by_cases h2:x > y
  ·have hz:z=1:=by rw [HC.out,if_neg h1,if_pos h2]
   subst hz
   clear HC
   go_enter Tryz.func170,Tryz.ntmps170
   go_wp2_with fail
   refine H1.out.mono ?_
   rintro e w1 ⟨rfl,rfl⟩
   go_wp2_with fail
   refine H2.out.mono ?_
   rintro e w1 ⟨rfl,rfl⟩
   go_wp2_with fail
   go_ret
   exact ⟨rfl,rfl⟩
  ·have hz:z=0:=by rw [HC.out,if_neg h1,if_neg h2]
   subst hz
   clear HC
   go_enter Tryz.func170,Tryz.ntmps170
   go_wp2_with fail
   refine H1.out.mono ?_
   rintro e w1 ⟨rfl,rfl⟩
   go_wp2_with fail
   refine H2.out.mono ?_
   rintro e w1 ⟨rfl,rfl⟩
   go_wp2_with fail
   go_ret
   exact ⟨rfl,rfl⟩
theorem zUv(d:ClmD)(t:Int)(w:World):Calls Tryz.prog 169 #[.agg #[.int .i64 d.tx,.int .i64 d.mode],.int .i64 t] w fun e w'=>e=.returned (.int .i64 (cmpI d.tx t))/\Mod zAb w w':=by
 have HC:=fun w'=>yPa d.tx t w'
 have HM:Hid (Mod zAb w (w.alloc (.cells #[.int .i64 d.tx,.int .i64 d.mode] 170))):=(Mod.refl _ w).alloc _
 go_enter Tryz.func169,Tryz.ntmps169
 go_wp2_with fail
 refine (HC _).mono ?_
 rintro e w1 ⟨rfl,rfl⟩
 go_wp2_with fail
 go_ret
 exact ⟨rfl,HM.out⟩
theorem yFd{x t:Int}:cmpI x t<0↔x<t:=by
 unfold cmpI
 split
 ·simp;omega
 split
 ·simp;omega
 ·simp;omega
theorem yLn{x t:Int}:cmpI x t=0↔x=t:=by
 unfold cmpI
 split
 ·simp;omega
 split
 ·simp;omega
 ·simp;omega
theorem yDp(L:Nat)(v:Value)(l:List ClmD)(t:Int)(w:World)(hv:zPc w L v l)(hr:zEw l)(hl:l.length<=1000) :
  Calls Tryz.prog 168 #[v,.int .i64 t,.func (.func 169) #[] #[]] w fun e w'=>e=.returned (.tuple #[.int .i64 (plcN l t),.bool (fndN l t)])/\Mod zAb w w':=by
 have HV:=Hmq hv
 obtain ⟨a,cap,rfl,hc1,hc2⟩:=SlR.slice hv
 have HR:=Hmq hr
 clear hv hr
 go_enter Tryz.func168,Tryz.ntmps168
 go_wp2_with fail
 go_loopw [9,10] (fun x y wr=>∃ i j:Nat,x=.int .i64 i/\y=.int .i64 j/\i<=j/\j<=l.length/\(∀ k d,k<i->l[k]?=some d->d.tx<t)/\(∀ k d,j<=k->l[k]?=some d->t<=d.tx)/\Mod zAb w wr) (fun x y _=>(intOf y).toNat - (intOf x).toNat)
 case atStart=>exact ⟨0,l.length,rfl,rfl,Nat.zero_le _,Nat.le_refl _,fun k d h=>by omega,fun k d h hk=>by have:=(List.getElem?_eq_some_iff.1 hk).1;omega,Mod.refl _ _⟩
 case round=>
  obtain ⟨i,j,rfl,rfl,hij,hj,hlo,hhi,hM⟩:=hrel
  have HLO:=Hmq hlo
  have HHI:=Hmq hhi
  have HM:=Hmq hM
  clear hlo hhi hM
  by_cases hlt:i<j
  ·obtain ⟨h,hh⟩:∃ h:Nat,h=(i+j) / 2:=⟨_,rfl⟩
   have hhl:h<l.length:=by omega
   obtain ⟨d,hd⟩:∃ d,l[h]?=some d:=⟨_,List.getElem?_eq_getElem hhl⟩
   obtain ⟨b,off,rfl,_,q0,q1⟩:=HV.out.at hd
   have p0:=HM.out.cell q0 id
   have p1:=HM.out.cell q1 id
   have HPL:=Hmq (zUv d t wr)
   have HD:=Hmq hd
   have hltI:(i:Int)<(j:Int):=by omega
   have hhI:(h:Int)<(l.length:Int):=by omega
   have hh0:(0:Int)<=(h:Int):=by omega
   have HHH:Hid (((i:Int)+(j:Int)) / 2=(h:Int)):=(by omega:((i:Int)+(j:Int)) / 2=(h:Int))
   have HHE:=Hmq hh
   clear hd q0 q1 hh
   go_upto_region 5 with fail
   rw [HHH.out]
   go_wp2_with fail
   refine HPL.out.mono ?_
   rintro e w5 ⟨rfl,hm5⟩
   have HM5:=Hmq (HM.out.trans hm5)
   clear hm5 HPL p0 p1
   by_cases hgt:d.tx<t
   ·have hdd:decide (cmpI d.tx t<0)=true:=decide_eq_true (yFd.2 hgt)
    go_wp2_with fail
    go_roundw
    case rel=>
     refine ⟨h+1,j,by go_num,rfl,by have:=HHE.out;omega,hj,fun k d' hk hd'=>?_,HHI.out,HM5.out⟩
     have h1:=(zIk HR.out t h d HD.out).2 (by omega)
     exact (zIk HR.out t k d' hd').1 (by omega)
    case measure=>have:=HHE.out;simp [intOf];omega
   ·have hdd:decide (cmpI d.tx t<0)=false:=decide_eq_false (fun h=>hgt (yFd.1 h))
    go_wp2_with fail
    go_roundw
    case rel=>
     refine ⟨i,h,rfl,rfl,by have:=HHE.out;omega,by omega,HLO.out,fun k d' hk hd'=>?_,HM5.out⟩
     have h1:=mt (zIk HR.out t h d HD.out).1 (by omega)
     have h2:=mt (zIk HR.out t k d' hd').2 (by omega)
     omega
    case measure=>have:=HHE.out;simp [intOf];omega
  ·obtain rfl:i=j:=by omega
   have HP:=Hmq (yJo HR.out hj HLO.out HHI.out)
   clear hlt
   by_cases hlt:i<l.length
   ·obtain ⟨d,hd⟩:∃ d,l[i]?=some d:=⟨_,List.getElem?_eq_getElem hlt⟩
    obtain ⟨b,off,rfl,_,q0,q1⟩:=HV.out.at hd
    have p0:=HM.out.cell q0 id
    have p1:=HM.out.cell q1 id
    have HF:Hid (fndN l t=decide (d.tx=t)):=by unfold fndN;rw [HP.out,hd];rfl
    have HPL:=Hmq (zUv d t wr)
    have hiI:(i:Int)<(l.length:Int):=by omega
    have hi0:(0:Int)<=(i:Int):=by omega
    have hzz:(cmpI d.tx t == 0)=decide (d.tx=t):=by rw [Bool.eq_iff_iff,beq_iff_eq,decide_eq_true_iff];exact yLn
    have HZZ:=Hmq hzz
    clear hd q0 q1 hzz
    go_wp2_with fail
    refine HPL.out.mono ?_
    rintro e w5 ⟨rfl,hm5⟩
    have HM5:=Hmq (HM.out.trans hm5)
    clear hm5 HPL p0 p1
    go_wp2_with fail
    go_ret2
    exact ⟨by rw [HP.out,HF.out,<-HZZ.out];rfl,HM5.out⟩
   ·have HF:Hid (fndN l t=false):=by unfold fndN;rw [HP.out,List.getElem?_eq_none (by omega)];rfl
    have hiI:¬ (i:Int)<(l.length:Int):=by omega
    go_wp2_with fail
    go_ret2
    exact ⟨by rw [HP.out,HF.out];rfl,HM.out⟩
theorem zZg(L:Nat)(v:Value)(l:List ClmD)(t:Int)(w:World)(hv:zPc w L v l)(hr:zEw l)(hl:l.length<=1000) :
  Calls Tryz.prog 144 #[v,.int .i64 t] w fun e w'=>e=.returned (.tuple #[.int .i64 (plcN l t),.bool (fndN l t)])/\Mod zAb w w':=by
 have HB:=Hmq (yDp L v l t w hv hr hl)
 obtain ⟨a,cap,rfl,hc1,hc2⟩:=SlR.slice hv
 clear hv hr
 go_enter Tryz.func144,Tryz.ntmps144
 go_wp2_with fail
 refine HB.out.mono ?_
 rintro e w1 ⟨rfl,hm⟩
 go_wp2_with fail
 go_ret2
 exact ⟨rfl,hm⟩
theorem zJr(L:Nat)(v:Value)(l:List ClmD)(t:Int)(w:World)(hv:zPc w L v l)(hr:zEw l)(hl:l.length<=1000) :
  Calls Tryz.prog 110 #[v,.int .i64 t] w fun e w'=>e=.returned (.int .i64 (zCp l t))/\Mod zAb w w':=by
 have HB:=Hmq (zZg L v l t w hv hr hl)
 have HV:=Hmq hv
 obtain ⟨a,cap,rfl,hc1,hc2⟩:=SlR.slice hv
 have hle:=zXa l t
 clear hv hr
 cases hf:fndN l t with
 | true=>
  rw [hf] at HB
  obtain ⟨c,h1,h2⟩:=yAq hf
  have HMO:Hid (zCp l t=c.mode):=by rw [Hid];unfold zCp;rw [h1];simp [h2]
  obtain ⟨b,off,rfl,_,q0,q1⟩:=HV.out.at h1
  have hpl:plcN l t<l.length:=(List.getElem?_eq_some_iff.1 h1).1
  generalize plcN l t=n at HB hle q1 hpl
  have hnI:(n:Int)<(l.length:Int):=by omega
  have hn0:(0:Int)<=(n:Int):=by omega
  clear hf h1 h2 q0
  go_enter Tryz.func110,Tryz.ntmps110
  go_wp2_with fail
  refine HB.out.mono ?_
  rintro e w1 ⟨rfl,hm⟩
  have p1:=hm.cell q1 id
  have HM:=Hmq hm
  clear hm q1
  go_wp2_with fail
  go_ret
  exact ⟨by rw [HMO.out];rfl,HM.out⟩
 | false=>
  rw [hf] at HB
  have HMO:Hid (zCp l t=0):=by
   rw [Hid]
   unfold fndN at hf
   unfold zCp
   cases hc:l[plcN l t]? with
   | none=>rfl
   | some c=>rw [hc] at hf;simp at hf;simp [hf]
  clear hf
  go_enter Tryz.func110,Tryz.ntmps110
  go_wp2_with fail
  refine HB.out.mono ?_
  rintro e w1 ⟨rfl,hm⟩
  go_wp2_with fail
  go_ret
  exact ⟨by rw [HMO.out];rfl,hm⟩
def zAi(d:ClmD):List Value:=[.int .i64 d.tx,.int .i64 d.mode]
def zAe:List ClmD->List Value
 | []=>[]
 | o :: os=>zAi o++zAe os
theorem zBl:∀ os,(zAe os).length=os.length*2
 | []=>rfl
 | o :: os=>by simp [zAe,zAi,zBl os];omega
theorem zGk:∀ a b,zAe (a++b)=zAe a++zAe b
 | [],b=>by simp [zAe]
 | p :: a,b=>by simp [zAe,zGk a b]
theorem zFj(d:ClmD):zAe [d]=zAi d:=by simp [zAe]
theorem zNd:∀(os:List ClmD)(i:Nat),zAe (os.take i)=(zAe os).take (i*2)
 | [],i=>by simp [zAe]
 | o :: os,0=>by simp [zAe]
 | o :: os,i+1=>by
  rw [List.take_succ_cons,zAe,zAe,zNd os i,show (i+1)*2=(zAi o).length+i*2 by simp [zAi];omega,List.take_length_add_append]
theorem zNe:∀(os:List ClmD)(i:Nat),zAe (os.drop i)=(zAe os).drop (i*2)
 | [],i=>by simp [zAe]
 | o :: os,0=>by simp [zAe]
 | o :: os,i+1=>by
  rw [List.drop_succ_cons,zAe,zNe os i,show (i+1)*2=(zAi o).length+i*2 by simp [zAi];omega,List.drop_length_add_append]
theorem zNf:∀(os:List ClmD)(i:Nat)(o:ClmD),os[i]?=some o->∀ j x,(zAi o)[j]?=some x->(zAe os)[i*2+j]?=some x
 | [],i,o,h,_,_,_=>by simp at h
 | p :: os,0,o,h,j,x,hx=>by
  simp at h
  subst h
  have hj:j<(zAi p).length:=(List.getElem?_eq_some_iff.1 hx).1
  rw [zAe,Nat.zero_mul,Nat.zero_add,List.getElem?_append_left hj]
  exact hx
 | p :: os,i+1,o,h,j,x,hx=>by
  have ih:=zNf os i o (by simpa using h) j x hx
  have hl:(zAi p).length=2:=rfl
  rw [zAe,List.getElem?_append_right (by omega),hl,show (i+1)*2+j - 2=i*2+j by omega]
  exact ih
def RowK(w:World)(B:Nat)(v:Value)(os:List ClmD):Prop:=w.ownsRow B 170 2 v os.length (zAe os)
theorem RowK.toV{w:World}{B L:Nat}{v:Value}{os:List ClmD}(h:RowK w B v os)(hL:w.heap.size<=L):zPc w L v os:=by
 obtain ⟨h1,h2⟩:=h
 rcases h2 with ⟨rfl,hn⟩ | ⟨g,cap,cur,rfl,q1,q2,q3,q4,q5,q6⟩
 ·have:os=[]:=List.eq_nil_of_length_eq_zero hn
  subst this
  exact SlR.nil _ _ _ _
 ·have hc:w.ownsRow B 170 2 (.slice (some ⟨g,0,none⟩) os.length cap) os.length (zAe os):=⟨h1,.inr ⟨g,cap,cur,rfl,q1,q2,q3,q4,q5,q6⟩⟩
  have hcl:=hc.cells (g:=g) rfl
  have hgl:g<w.heap.size:=(Array.getElem?_eq_some_iff.1 q2).1
  refine ⟨_,cap,rfl,q3,q4,.inr ⟨g,0,rfl,by omega,fun i o hi=>⟨zAi o,rfl,rfl,fun j x hx=>?_⟩⟩⟩
  have:=hcl _ _ (zNf os i o hi j x hx)
  rw [Go.WideShapes.add_plain,Nat.zero_add] at this
  rw [Nat.zero_add]
  exact this
theorem RowK.mod{G:Nat->Prop}{w w':World}{B:Nat}{v:Value}{os:List ClmD}(h:RowK w B v os)(hm:Mod G w w')(hG:∀ k,v.ownBlock=some k->¬ G k):RowK w' B v os:=zAm h hm (fun k _ _ e=>hG k e)
theorem zEc:∀(os:List ClmD),∀ u∈zAe os,u.oneCell'=true
 | [],u,h=>by simp [zAe] at h
 | o :: os,u,h=>by
  rcases List.mem_append.1 h with h | h
  ·simp [zAi] at h
   rcases h with rfl | rfl <;> rfl
  ·exact zEc os u h
theorem zAr{w:World}{B:Nat}{v:Value}{e:TypeId}{sz n:Nat}{xs:List Value}(ho:w.ownsRow B e sz v n xs){k:Nat}(hk:v.ownBlock=some k):B<=k/\k<w.heap.size/\∃ cur,w.heap[k]?=some (.cells cur e (0,0)):=by
 rcases ho.2 with ⟨rfl,_⟩ | ⟨g,cap,cur,rfl,q1,q2,_⟩
 ·simp [Value.ownBlock] at hk
 ·simp [Value.ownBlock] at hk
  subst hk
  exact ⟨q1,(Array.getElem?_eq_some_iff.1 q2).1,cur,q2⟩
theorem Tryz.info170:(Tryz.prog.info? 170).map (fun i=>(i.zero,i.size,i.bytes))=some (some (.agg #[.int .i64 0,.int .i64 0]),2,16):=by kernel_rfl
theorem zUs(w:World)(e:TypeId)(sz:Nat):(w.alloc (.cells #[] e)).ownsRow w.heap.size e sz (.slice (some ⟨w.heap.size,0,none⟩) 0 0) 0 []:=
 ⟨by simp,.inr ⟨w.heap.size,0,#[],rfl,Nat.le_refl _,heap_alloc_new w _,Nat.le_refl _,by unfold maxLen;omega,by simp,by simp⟩⟩
theorem zKu{w0:World}{ops:Array Oper}{rest:List Oper}{o:Oper}{a:Act}{Q:Exit->Act->World->Prop}(hgd:o.guard=none)(s x:Operand)(t:TypeId)
  (ho:o.op=.call { callee:=.builtin .append,args:=#[s,x],argTypes:=#[t,t] })
  (e:TypeId) (i:TypeInfo) (z:Value) (size bytes:Nat) (ht:Tryz.prog.underlying t=some (.slice e)) (hi:Tryz.prog.info? e=some i) (hz:i.zero=some z)
  (hsize:i.size=size) (hby:i.bytes=bytes) (hzs:z.cells.size=size) (hsz:0<size)
  (hnil:∀ (g:Nat) (a:Option Addr) (c:Nat) (ty:TypeId) (w:World),(Builtin.append_ #[t,t] ty #[.slice (some ⟨g,0,none⟩) 0 0,.slice a 0 c]).run Tryz.prog w=.ok (.slice (some ⟨g,0,none⟩) 0 0) w)
  (hs:a.eval s=.slice (some ⟨w0.heap.size,0,none⟩) 0 0)
  (ad:Option Addr) (m c:Nat) (news:List Value) (hx:a.eval x=.slice ad m c) (hl:news.length=m*size) (hnews:m=0\/∃ p,ad=some p/\∀ j u,news[j]?=some u->w0.cell? (p.add j)=some u) (h1:∀ u∈news,u.oneCell'=true)
  (h63:m<=maxLen) (hbytes:m*bytes<=140737488355328)
  (h:∀ (g cap:Nat) w',w'.ownsRow w0.heap.size e size (.slice (some ⟨g,0,none⟩) m cap) m news->Mod zAb w0 w'->wpList Tryz.prog ops Q rest (a.put o.dst (.slice (some ⟨g,0,none⟩) m cap)) w') :
  wpList Tryz.prog ops Q (o :: rest) a (w0.alloc (.cells #[] e)):=by
 have hm0:Mod zAb w0 (w0.alloc (.cells #[] e)):=(Mod.refl _ w0).alloc _
 by_cases hm:m=0
 ·subst hm
  have hn:news=[]:=List.eq_nil_of_length_eq_zero (by simpa using hl)
  subst hn
  refine wpList_plain hgd fun K hK=>?_
  have hr:=hnil w0.heap.size ad c o.type (w0.alloc (.cells #[] e))
  unfold Oper.wp execOp
  simp only [ho,resolve,invoke,builtin,Sem.run_bind,Sem.run_pure,Result.andThen_ok,List.map_toArray,List.map_cons,List.map_nil,hs,hx,hr]
  exact hK _ _ (h _ _ _ (zUs w0 e size) hm0)
 ·obtain ⟨p,rfl,hc⟩:=hnews.resolve_left hm
  refine wpList_append_own _ hgd s x t ho w0.heap.size e i z size bytes ht hi hz hsize hby hzs hsz _ 0 [] hs (zUs w0 e size) p m c news hx hl (fun j u hu=>hm0.cell (hc j u hu) id) h1 (by omega) (by rw [Nat.zero_add];exact hbytes) (by simp) ?_
  intro v' w' hown hgrow hne
  have hm1:Mod zAb w0 w':=hm0.grown hgrow (fun x hx hlt=>by simp [Value.ownBlock] at hx;omega)
  simp only [Nat.zero_add,List.nil_append] at hown
  rcases hown.2 with ⟨e0,e1⟩ | ⟨g,cap,cur,rfl,_⟩
  ·exact absurd e1 hm
  ·exact h g cap w' hown hm1
theorem zTz(g:Nat)(a:Option Addr)(c:Nat)(ty:TypeId)(w:World):(Builtin.append_ #[166,166] ty #[.slice (some ⟨g,0,none⟩) 0 0,.slice a 0 c]).run Tryz.prog w=.ok (.slice (some ⟨g,0,none⟩) 0 0) w:=by
 cases a <;> kernel_rfl
theorem yHr(p:Addr)(m c:Nat)(l:List ClmD)(w:World)(hm:m=l.length)(hc:∀ (j:Nat) u,(zAe l)[j]?=some u->w.cell? (p.add j)=some u)(hl:l.length<=1000) :
  Calls Tryz.prog 152 #[.slice (some p) m c] w fun e w'=>∃ g cap,e=.returned (.slice (some ⟨g,0,none⟩) m cap)/\w'.ownsRow w.heap.size 170 2 (.slice (some ⟨g,0,none⟩) m cap) m (zAe l)/\Mod zAb w w':=by
 obtain ⟨i0,hi,hz0,hz1,hz2⟩:=info_parts Tryz.info170
 have h63:m<=maxLen:=by unfold maxLen;omega
 have h47:m*16<=140737488355328:=by omega
 have HLC:Hid ((zAe l).length=m*2):=by rw [hm];exact zBl l
 have HFL:Hid (m=0\/∃ q,some p=some q/\∀ (j:Nat) u,(zAe l)[j]?=some u->w.cell? (q.add j)=some u):=.inr ⟨p,rfl,hc⟩
 have HON:=Hmq (zEc l)
 have hen:=run_eql_slice_nil (P:=Tryz.prog) w 166 170 (some p) m c 0 0 Tryz.underlying166
 clear hc hm
 go_enter Tryz.func152,Tryz.ntmps152
 go_wp2_with (first
  | (at_builtin;(refine zKu (w0:=w) rfl _ _ 166 rfl 170 i0 _ 2 16 Tryz.underlying166 hi hz0 hz1 hz2 rfl (by omega) zTz rfl (some p) m c (zAe l) rfl HLC.out HFL.out HON.out h63 h47 ?_))
  | fail)
 intro g cap w2 hrow hm2
 go_wp2_with fail
 go_ret
 exact ⟨g,cap,rfl,hrow,hm2⟩
end Go.Proofs.YtmaiggbnceejiaaGreatDoor
