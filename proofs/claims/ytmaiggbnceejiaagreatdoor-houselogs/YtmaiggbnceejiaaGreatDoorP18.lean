import Derived.Test.YtmaiggbnceejiaaGreatDoorP17
import Derived.Lib.SliceRun
set_option linter.unusedVariables false
set_option maxRecDepth 100000
set_option maxHeartbeats 16000000
namespace Go.Proofs.YtmaiggbnceejiaaGreatDoor
open Go.RowKit Go.Lib Go.Maps
structure AskG{α:Type}(f:Nat)(caps:Array Value)(arg:α->Value)(es:List α)(p:α->Bool)(C:World->Prop):Prop where
 enter:∀ (args:Array Value) (w:World),(callFunc f args).run Tryz.prog w=.ok (.enter f args) w
 keep:∀ w w',C w->Mod zAb w w'->C w'
 ask:∀ d∈es,∀ wr,C wr->Calls Tryz.prog f (#[arg d]++caps) wr fun e w'=>e=.returned (.bool (p d))/\Mod zAb wr w'
def idxI(o:Option Nat):Int:=match o with | none=>-1 | some k=>k
theorem zQc{α:Type}(p:α->Bool):∀ (ms:List α) (k:Nat),(∀ i m,i<k->ms[i]?=some m->p m=false)->∀ m,ms[k]?=some m->p m=true->ms.findIdx? p=some k
 | [],_,_,m,h,_=>by simp at h
 | m' :: ms,0,_,m,h,hs=>by simp at h;subst h;simp [List.findIdx?_cons,hs]
 | m' :: ms,k+1,hf,m,h,hs=>by
  have h0:=hf 0 m' (by omega) rfl
  have:=zQc p ms k (fun i m hi hm=>hf (i+1) m (by omega) (by simpa using hm)) m (by simpa using h) hs
  simp [List.findIdx?_cons,h0,this]
theorem zJw{α:Type}(p:α->Bool):∀ (ms:List α),(∀ (i:Nat) m,ms[i]?=some m->p m=false)->ms.findIdx? p=none
 | [],_=>rfl
 | m :: ms,h=>by
  have h0:=h 0 m rfl
  simp [List.findIdx?_cons,h0,zJw p ms (fun i m hm=>h (i+1) m (by simpa using hm))]
theorem zXv{α:Type}(p:α->Bool):∀ (ms:List α),decide (idxI (ms.findIdx? p) ≥ 0)=ms.any p
 | []=>rfl
 | m :: ms=>by
  have ih:=zXv p ms
  by_cases h:p m=true
  ·simp [List.findIdx?_cons,h,idxI]
  ·have h':p m=false:=by simpa using h
   rw [List.any_cons,h',Bool.false_or,<-ih,List.findIdx?_cons,if_neg h]
   cases ms.findIdx? p with
   | none=>rfl
   | some k=>simp [idxI];omega
def yNb(d:Nat)(l:List Value):Prop:=l=[.pointer (some ⟨d,0,none⟩)]
theorem zSk(f L:Nat)(caps:Array Value)(p:Nat->Bool)(v:Value)(ms:List Nat)(w:World)(C:World->Prop)(hv:SlR w L 1 yNb v ms)(hA:AskG f caps (fun d=>.pointer (some ⟨d,0,none⟩)) ms p C)(hC:C w)(hf:ms.length<=1000000) :
  Calls Tryz.prog 96 #[v,.func (.func f) #[] caps] w fun e w'=>e=.returned (.int .i64 (idxI (ms.findIdx? p)))/\Mod zAb w w':=by
 have HV:=Hmq hv
 obtain ⟨a,cap,rfl,hc1,hc2⟩:=SlR.slice hv
 have HA:=Hmq hA
 have HCC:=Hmq hC
 have hen:=hA.enter
 clear hv hA hC
 go_enter Tryz.func96,Tryz.ntmps96
 go_wp2_with fail
 go_loopw [8] (fun i wr=>∃ k:Nat,k<=ms.length/\i=.int .i64 k/\(∀ i m,i<k->ms[i]?=some m->p m=false)/\Mod zAb w wr) (fun i _=>ms.length - (intOf i).toNat)
 case atStart=>exact ⟨0,Nat.zero_le _,rfl,fun i m h=>by omega,Mod.refl _ _⟩
 case round=>
  obtain ⟨k,hk,rfl,hno,hM⟩:=hrel
  have HNO:=Hmq hno
  have HM:=Hmq hM
  clear hno hM
  by_cases hlt:k<ms.length
  ·obtain ⟨m,hm⟩:∃ m,ms[k]?=some m:=⟨_,List.getElem?_eq_getElem hlt⟩
   obtain ⟨b,off,l,rfl,_,hl,_,hcl⟩:=SlR.at HV.out hm
   unfold yNb at hl
   subst hl
   have p0:=HM.out.cell (hcl 0 _ rfl) id
   simp only [Nat.add_zero,Nat.mul_one] at p0
   have HC:=Hmq (HA.out.ask m (List.mem_of_getElem? hm) wr (HA.out.keep _ _ HCC.out HM.out))
   have HMM:=Hmq hm
   have hltI:(k:Int)<(ms.length:Int):=by omega
   have hlt0:(0:Int)<=(k:Int):=by omega
   clear hm hcl
   go_wp2_with fail
   refine HC.out.mono ?_
   rintro e w5 ⟨rfl,hm5⟩
   have HM5:=Hmq (HM.out.trans hm5)
   clear HC hm5
   cases hs:p m with
   | true=>
    have HF:=Hmq (zQc p ms k HNO.out m HMM.out hs)
    go_wp2_with fail
    go_ret
    exact ⟨by rw [HF.out];rfl,HM5.out⟩
   | false=>
    go_wp2_with fail
    go_roundw
    case rel=>
     refine ⟨k+1,by omega,by go_num,fun i m' hi' hm'=>?_,HM5.out⟩
     by_cases hik:i<k
     ·exact HNO.out i m' hik hm'
     ·obtain rfl:i=k:=by omega
      rw [HMM.out] at hm';cases hm';exact hs
    case measure=>simp [intOf];omega
  ·have HF:=Hmq (zJw p ms (fun i m hm=>HNO.out i m (by have:=(List.getElem?_eq_some_iff.1 hm).1;omega) hm))
   go_wp2_with fail
   go_ret
   exact ⟨by rw [HF.out];rfl,HM.out⟩
def zWz(d:zBa)(l:List Value):Prop:=l=[.string d.key,.string d.val,.bool d.gone]
theorem zSj(f L:Nat)(caps:Array Value)(p:zBa->Bool)(v:Value)(ms:List zBa)(w:World)(C:World->Prop)(hv:SlR w L 3 zWz v ms)(hA:AskG f caps (fun d=>.agg #[.string d.key,.string d.val,.bool d.gone]) ms p C)(hC:C w)(hf:ms.length<=1000000) :
  Calls Tryz.prog 132 #[v,.func (.func f) #[] caps] w fun e w'=>e=.returned (.int .i64 (idxI (ms.findIdx? p)))/\Mod zAb w w':=by
 have HV:=Hmq hv
 obtain ⟨a,cap,rfl,hc1,hc2⟩:=SlR.slice hv
 have HA:=Hmq hA
 have HCC:=Hmq hC
 have hen:=hA.enter
 clear hv hA hC
 go_enter Tryz.func132,Tryz.ntmps132
 go_wp2_with fail
 go_loopw [8] (fun i wr=>∃ k:Nat,k<=ms.length/\i=.int .i64 k/\(∀ i m,i<k->ms[i]?=some m->p m=false)/\Mod zAb w wr) (fun i _=>ms.length - (intOf i).toNat)
 case atStart=>exact ⟨0,Nat.zero_le _,rfl,fun i m h=>by omega,Mod.refl _ _⟩
 case round=>
  obtain ⟨k,hk,rfl,hno,hM⟩:=hrel
  have HNO:=Hmq hno
  have HM:=Hmq hM
  clear hno hM
  by_cases hlt:k<ms.length
  ·obtain ⟨m,hm⟩:∃ m,ms[k]?=some m:=⟨_,List.getElem?_eq_getElem hlt⟩
   obtain ⟨b,off,l,rfl,_,hl,_,hcl⟩:=SlR.at HV.out hm
   unfold zWz at hl
   subst hl
   have p0:=HM.out.cell (hcl 0 _ rfl) id
   simp only [Nat.add_zero] at p0
   have p1:=HM.out.cell (hcl 1 _ rfl) id
   have p2:=HM.out.cell (hcl 2 _ rfl) id
   have HC:=Hmq (HA.out.ask m (List.mem_of_getElem? hm) wr (HA.out.keep _ _ HCC.out HM.out))
   have HMM:=Hmq hm
   have hltI:(k:Int)<(ms.length:Int):=by omega
   have hlt0:(0:Int)<=(k:Int):=by omega
   clear hm hcl
   go_wp2_with fail
   refine HC.out.mono ?_
   rintro e w5 ⟨rfl,hm5⟩
   have HM5:=Hmq (HM.out.trans hm5)
   clear HC hm5
   cases hs:p m with
   | true=>
    have HF:=Hmq (zQc p ms k HNO.out m HMM.out hs)
    go_wp2_with fail
    go_ret
    exact ⟨by rw [HF.out];rfl,HM5.out⟩
   | false=>
    go_wp2_with fail
    go_roundw
    case rel=>
     refine ⟨k+1,by omega,by go_num,fun i m' hi' hm'=>?_,HM5.out⟩
     by_cases hik:i<k
     ·exact HNO.out i m' hik hm'
     ·obtain rfl:i=k:=by omega
      rw [HMM.out] at hm';cases hm';exact hs
    case measure=>simp [intOf];omega
  ·have HF:=Hmq (zJw p ms (fun i m hm=>HNO.out i m (by have:=(List.getElem?_eq_some_iff.1 hm).1;omega) hm))
   go_wp2_with fail
   go_ret
   exact ⟨by rw [HF.out];rfl,HM.out⟩
def zZb(d:(CmdD × Value))(l:List Value):Prop:=l=[.int .i64 d.1.kind,.int .i64 d.1.tx,.int .i64 d.1.time,d.2]
theorem yDa(f L:Nat)(caps:Array Value)(p:(CmdD × Value)->Bool)(v:Value)(ms:List (CmdD × Value))(w:World)(C:World->Prop)(hv:SlR w L 4 zZb v ms)(hA:AskG f caps (fun d=>.agg #[.int .i64 d.1.kind,.int .i64 d.1.tx,.int .i64 d.1.time,d.2]) ms p C)(hC:C w)(hf:ms.length<=1000000) :
  Calls Tryz.prog 126 #[v,.func (.func f) #[] caps] w fun e w'=>e=.returned (.int .i64 (idxI (ms.findIdx? p)))/\Mod zAb w w':=by
 have HV:=Hmq hv
 obtain ⟨a,cap,rfl,hc1,hc2⟩:=SlR.slice hv
 have HA:=Hmq hA
 have HCC:=Hmq hC
 have hen:=hA.enter
 clear hv hA hC
 go_enter Tryz.func126,Tryz.ntmps126
 go_wp2_with fail
 go_loopw [8] (fun i wr=>∃ k:Nat,k<=ms.length/\i=.int .i64 k/\(∀ i m,i<k->ms[i]?=some m->p m=false)/\Mod zAb w wr) (fun i _=>ms.length - (intOf i).toNat)
 case atStart=>exact ⟨0,Nat.zero_le _,rfl,fun i m h=>by omega,Mod.refl _ _⟩
 case round=>
  obtain ⟨k,hk,rfl,hno,hM⟩:=hrel
  have HNO:=Hmq hno
  have HM:=Hmq hM
  clear hno hM
  by_cases hlt:k<ms.length
  ·obtain ⟨m,hm⟩:∃ m,ms[k]?=some m:=⟨_,List.getElem?_eq_getElem hlt⟩
   obtain ⟨b,off,l,rfl,_,hl,_,hcl⟩:=SlR.at HV.out hm
   unfold zZb at hl
   subst hl
   have p0:=HM.out.cell (hcl 0 _ rfl) id
   simp only [Nat.add_zero] at p0
   have p1:=HM.out.cell (hcl 1 _ rfl) id
   have p2:=HM.out.cell (hcl 2 _ rfl) id
   have p3:=HM.out.cell (hcl 3 _ rfl) id
   have HC:=Hmq (HA.out.ask m (List.mem_of_getElem? hm) wr (HA.out.keep _ _ HCC.out HM.out))
   have HMM:=Hmq hm
   have hltI:(k:Int)<(ms.length:Int):=by omega
   have hlt0:(0:Int)<=(k:Int):=by omega
   clear hm hcl
   go_wp2_with fail
   refine HC.out.mono ?_
   rintro e w5 ⟨rfl,hm5⟩
   have HM5:=Hmq (HM.out.trans hm5)
   clear HC hm5
   cases hs:p m with
   | true=>
    have HF:=Hmq (zQc p ms k HNO.out m HMM.out hs)
    go_wp2_with fail
    go_ret
    exact ⟨by rw [HF.out];rfl,HM5.out⟩
   | false=>
    go_wp2_with fail
    go_roundw
    case rel=>
     refine ⟨k+1,by omega,by go_num,fun i m' hi' hm'=>?_,HM5.out⟩
     by_cases hik:i<k
     ·exact HNO.out i m' hik hm'
     ·obtain rfl:i=k:=by omega
      rw [HMM.out] at hm';cases hm';exact hs
    case measure=>simp [intOf];omega
  ·have HF:=Hmq (zJw p ms (fun i m hm=>HNO.out i m (by have:=(List.getElem?_eq_some_iff.1 hm).1;omega) hm))
   go_wp2_with fail
   go_ret
   exact ⟨by rw [HF.out];rfl,HM.out⟩
def yQb(d:ByteArray)(l:List Value):Prop:=l=[.string d]
theorem yCy(f L:Nat)(caps:Array Value)(p:ByteArray->Bool)(v:Value)(ms:List ByteArray)(w:World)(C:World->Prop)(hv:SlR w L 1 yQb v ms)(hA:AskG f caps (fun d=>.string d) ms p C)(hC:C w)(hf:ms.length<=1000000) :
  Calls Tryz.prog 119 #[v,.func (.func f) #[] caps] w fun e w'=>e=.returned (.int .i64 (idxI (ms.findIdx? p)))/\Mod zAb w w':=by
 have HV:=Hmq hv
 obtain ⟨a,cap,rfl,hc1,hc2⟩:=SlR.slice hv
 have HA:=Hmq hA
 have HCC:=Hmq hC
 have hen:=hA.enter
 clear hv hA hC
 go_enter Tryz.func119,Tryz.ntmps119
 go_wp2_with fail
 go_loopw [8] (fun i wr=>∃ k:Nat,k<=ms.length/\i=.int .i64 k/\(∀ i m,i<k->ms[i]?=some m->p m=false)/\Mod zAb w wr) (fun i _=>ms.length - (intOf i).toNat)
 case atStart=>exact ⟨0,Nat.zero_le _,rfl,fun i m h=>by omega,Mod.refl _ _⟩
 case round=>
  obtain ⟨k,hk,rfl,hno,hM⟩:=hrel
  have HNO:=Hmq hno
  have HM:=Hmq hM
  clear hno hM
  by_cases hlt:k<ms.length
  ·obtain ⟨m,hm⟩:∃ m,ms[k]?=some m:=⟨_,List.getElem?_eq_getElem hlt⟩
   obtain ⟨b,off,l,rfl,_,hl,_,hcl⟩:=SlR.at HV.out hm
   unfold yQb at hl
   subst hl
   have p0:=HM.out.cell (hcl 0 _ rfl) id
   simp only [Nat.add_zero,Nat.mul_one] at p0
   have HC:=Hmq (HA.out.ask m (List.mem_of_getElem? hm) wr (HA.out.keep _ _ HCC.out HM.out))
   have HMM:=Hmq hm
   have hltI:(k:Int)<(ms.length:Int):=by omega
   have hlt0:(0:Int)<=(k:Int):=by omega
   clear hm hcl
   go_wp2_with fail
   refine HC.out.mono ?_
   rintro e w5 ⟨rfl,hm5⟩
   have HM5:=Hmq (HM.out.trans hm5)
   clear HC hm5
   cases hs:p m with
   | true=>
    have HF:=Hmq (zQc p ms k HNO.out m HMM.out hs)
    go_wp2_with fail
    go_ret
    exact ⟨by rw [HF.out];rfl,HM5.out⟩
   | false=>
    go_wp2_with fail
    go_roundw
    case rel=>
     refine ⟨k+1,by omega,by go_num,fun i m' hi' hm'=>?_,HM5.out⟩
     by_cases hik:i<k
     ·exact HNO.out i m' hik hm'
     ·obtain rfl:i=k:=by omega
      rw [HMM.out] at hm';cases hm';exact hs
    case measure=>simp [intOf];omega
  ·have HF:=Hmq (zJw p ms (fun i m hm=>HNO.out i m (by have:=(List.getElem?_eq_some_iff.1 hm).1;omega) hm))
   go_wp2_with fail
   go_ret
   exact ⟨by rw [HF.out];rfl,HM.out⟩
def yGj(d:Int)(l:List Value):Prop:=l=[.int .i64 d]
theorem yCz(f L:Nat)(caps:Array Value)(p:Int->Bool)(v:Value)(ms:List Int)(w:World)(C:World->Prop)(hv:SlR w L 1 yGj v ms)(hA:AskG f caps (fun d=>.int .i64 d) ms p C)(hC:C w)(hf:ms.length<=1000000) :
  Calls Tryz.prog 134 #[v,.func (.func f) #[] caps] w fun e w'=>e=.returned (.int .i64 (idxI (ms.findIdx? p)))/\Mod zAb w w':=by
 have HV:=Hmq hv
 obtain ⟨a,cap,rfl,hc1,hc2⟩:=SlR.slice hv
 have HA:=Hmq hA
 have HCC:=Hmq hC
 have hen:=hA.enter
 clear hv hA hC
 go_enter Tryz.func134,Tryz.ntmps134
 go_wp2_with fail
 go_loopw [8] (fun i wr=>∃ k:Nat,k<=ms.length/\i=.int .i64 k/\(∀ i m,i<k->ms[i]?=some m->p m=false)/\Mod zAb w wr) (fun i _=>ms.length - (intOf i).toNat)
 case atStart=>exact ⟨0,Nat.zero_le _,rfl,fun i m h=>by omega,Mod.refl _ _⟩
 case round=>
  obtain ⟨k,hk,rfl,hno,hM⟩:=hrel
  have HNO:=Hmq hno
  have HM:=Hmq hM
  clear hno hM
  by_cases hlt:k<ms.length
  ·obtain ⟨m,hm⟩:∃ m,ms[k]?=some m:=⟨_,List.getElem?_eq_getElem hlt⟩
   obtain ⟨b,off,l,rfl,_,hl,_,hcl⟩:=SlR.at HV.out hm
   unfold yGj at hl
   subst hl
   have p0:=HM.out.cell (hcl 0 _ rfl) id
   simp only [Nat.add_zero,Nat.mul_one] at p0
   have HC:=Hmq (HA.out.ask m (List.mem_of_getElem? hm) wr (HA.out.keep _ _ HCC.out HM.out))
   have HMM:=Hmq hm
   have hltI:(k:Int)<(ms.length:Int):=by omega
   have hlt0:(0:Int)<=(k:Int):=by omega
   clear hm hcl
   go_wp2_with fail
   refine HC.out.mono ?_
   rintro e w5 ⟨rfl,hm5⟩
   have HM5:=Hmq (HM.out.trans hm5)
   clear HC hm5
   cases hs:p m with
   | true=>
    have HF:=Hmq (zQc p ms k HNO.out m HMM.out hs)
    go_wp2_with fail
    go_ret
    exact ⟨by rw [HF.out];rfl,HM5.out⟩
   | false=>
    go_wp2_with fail
    go_roundw
    case rel=>
     refine ⟨k+1,by omega,by go_num,fun i m' hi' hm'=>?_,HM5.out⟩
     by_cases hik:i<k
     ·exact HNO.out i m' hik hm'
     ·obtain rfl:i=k:=by omega
      rw [HMM.out] at hm';cases hm';exact hs
    case measure=>simp [intOf];omega
  ·have HF:=Hmq (zJw p ms (fun i m hm=>HNO.out i m (by have:=(List.getElem?_eq_some_iff.1 hm).1;omega) hm))
   go_wp2_with fail
   go_ret
   exact ⟨by rw [HF.out];rfl,HM.out⟩
theorem zTx(f L:Nat)(caps:Array Value)(p:ByteArray->Bool)(v:Value)(ms:List ByteArray)(w:World)(C:World->Prop)(hv:SlR w L 1 yQb v ms)(hA:AskG f caps (fun d=>.string d) ms p C)(hC:C w)(hf:ms.length<=1000000) :
  Calls Tryz.prog 73 #[v,.func (.func f) #[] caps] w fun e w'=>e=.returned (.bool (ms.any p))/\Mod zAb w w':=by
 have HI:=Hmq (yCy f L caps p v ms w C hv hA hC hf)
 obtain ⟨a,cap,rfl,hc1,hc2⟩:=SlR.slice hv
 have HAN:=Hmq (zXv p ms)
 clear hv hA
 go_enter Tryz.func73,Tryz.ntmps73
 go_wp2_with fail
 refine HI.out.mono ?_
 rintro e w1 ⟨rfl,hm⟩
 go_wp2_with fail
 go_ret
 exact ⟨by rw [<-HAN.out];rfl,hm⟩
theorem zTy(f L:Nat)(caps:Array Value)(p:Int->Bool)(v:Value)(ms:List Int)(w:World)(C:World->Prop)(hv:SlR w L 1 yGj v ms)(hA:AskG f caps (fun d=>.int .i64 d) ms p C)(hC:C w)(hf:ms.length<=1000000) :
  Calls Tryz.prog 93 #[v,.func (.func f) #[] caps] w fun e w'=>e=.returned (.bool (ms.any p))/\Mod zAb w w':=by
 have HI:=Hmq (yCz f L caps p v ms w C hv hA hC hf)
 obtain ⟨a,cap,rfl,hc1,hc2⟩:=SlR.slice hv
 have HAN:=Hmq (zXv p ms)
 clear hv hA
 go_enter Tryz.func93,Tryz.ntmps93
 go_wp2_with fail
 refine HI.out.mono ?_
 rintro e w1 ⟨rfl,hm⟩
 go_wp2_with fail
 go_ret
 exact ⟨by rw [<-HAN.out];rfl,hm⟩
end Go.Proofs.YtmaiggbnceejiaaGreatDoor
