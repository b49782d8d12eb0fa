import Derived.Test.YtogaigioeohjaaaGreatDoorD16
import Derived.Lib.SliceRun
set_option linter.unusedVariables false
set_option maxRecDepth 100000
set_option maxHeartbeats 16000000
namespace Go.Proofs.YtogaigioeohjaaaGreatDoor
open Go.RowKit Go.Lib Go.Maps
structure AskG{α:Type}(f:Nat)(caps:Array Value)(arg:α->Value)(es:List α)(p:α->Bool)(C:World->Prop):Prop where
 enter:∀ (args:Array Value) (w:World),(callFunc f args).run Tryz.prog w=.ok (.enter f args) w
 keep:∀ w w',C w->Mod zAb w w'->C w'
 ask:∀ d∈es,∀ wr,C wr->Calls Tryz.prog f (#[arg d]++caps) wr fun e w'=>e=.returned (.bool (p d))/\Mod zAb wr w'
def idxI(o:Option Nat):Int:=match o with | none=>-1 | some k=>k
theorem zPx{α:Type}(p:α->Bool):∀ (ms:List α) (k:Nat),(∀ i m,i<k->ms[i]?=some m->p m=false)->∀ m,ms[k]?=some m->p m=true->ms.findIdx? p=some k
 | [],_,_,m,h,_=>by simp at h
 | m' :: ms,0,_,m,h,hs=>by simp at h;subst h;simp [List.findIdx?_cons,hs]
 | m' :: ms,k+1,hf,m,h,hs=>by
  have h0:=hf 0 m' (by omega) rfl
  have:=zPx p ms k (fun i m hi hm=>hf (i+1) m (by omega) (by simpa using hm)) m (by simpa using h) hs
  simp [List.findIdx?_cons,h0,this]
theorem zJy{α:Type}(p:α->Bool):∀ (ms:List α),(∀ (i:Nat) m,ms[i]?=some m->p m=false)->ms.findIdx? p=none
 | [],_=>rfl
 | m :: ms,h=>by
  have h0:=h 0 m rfl
  simp [List.findIdx?_cons,h0,zJy p ms (fun i m hm=>h (i+1) m (by simpa using hm))]
theorem zYl{α:Type}(p:α->Bool):∀ (ms:List α),decide (idxI (ms.findIdx? p) ≥ 0)=ms.any p
 | []=>rfl
 | m :: ms=>by
  have ih:=zYl p ms
  by_cases h:p m=true
  ·simp [List.findIdx?_cons,h,idxI]
  ·have h':p m=false:=by simpa using h
   rw [List.any_cons,h',Bool.false_or,<-ih,List.findIdx?_cons,if_neg h]
   cases ms.findIdx? p with
   | none=>rfl
   | some k=>simp [idxI];omega
def yPh(d:Nat)(l:List Value):Prop:=l=[.pointer (some ⟨d,0,none⟩)]
theorem zSp(f L:Nat)(caps:Array Value)(p:Nat->Bool)(v:Value)(ms:List Nat)(w:World)(C:World->Prop)(hv:SlR w L 1 yPh v ms)(hA:AskG f caps (fun d=>.pointer (some ⟨d,0,none⟩)) ms p C)(hC:C w)(hf:ms.length<=1000000) :
  Calls Tryz.prog 126 #[v,.func (.func f) #[] caps] w fun e w'=>e=.returned (.int .i64 (idxI (ms.findIdx? p)))/\Mod zAb w w':=by
 have HV:=Hmq hv
 obtain ⟨a,cap,rfl,hc1,hc2⟩:=SlR.slice hv
 have HA:=Hmq hA
 have HCC:=Hmq hC
 have hen:=hA.enter
 clear hv hA hC
 go_enter Tryz.func126,Tryz.ntmps126
 go_wp2_with fail
 go_loopw [8] (fun i wr=>∃ k:Nat,k<=ms.length/\i=.int .i64 k/\(∀ i m,i<k->ms[i]?=some m->p m=false)/\Mod zAb w wr) (fun i _=>ms.length - (intOf i).toNat)
 case atStart=>exact ⟨0,Nat.zero_le _,rfl,fun i m h=>by omega,Mod.refl _ _⟩
 case round=>
  obtain ⟨k,hk,rfl,hno,hM⟩:=hrel
  have HNO:=Hmq hno
  have HM:=Hmq hM
  clear hno hM
  by_cases hlt:k<ms.length
  ·obtain ⟨m,hm⟩:∃ m,ms[k]?=some m:=⟨_,List.getElem?_eq_getElem hlt⟩
   obtain ⟨b,off,l,rfl,_,hl,_,hcl⟩:=SlR.at HV.out hm
   unfold yPh at hl
   subst hl
   have p0:=HM.out.cell (hcl 0 _ rfl) id
   simp only [Nat.add_zero,Nat.mul_one] at p0
   have HC:=Hmq (HA.out.ask m (List.mem_of_getElem? hm) wr (HA.out.keep _ _ HCC.out HM.out))
   have HMM:=Hmq hm
   have hltI:(k:Int)<(ms.length:Int):=by omega
   have hlt0:(0:Int)<=(k:Int):=by omega
   clear hm hcl
   go_wp2_with fail
   refine HC.out.mono ?_
   rintro e w5 ⟨rfl,hm5⟩
   have HM5:=Hmq (HM.out.trans hm5)
   clear HC hm5
   cases hs:p m with
   | true=>
    have HF:=Hmq (zPx p ms k HNO.out m HMM.out hs)
    go_wp2_with fail
    go_ret
    exact ⟨by rw [HF.out];rfl,HM5.out⟩
   | false=>
    go_wp2_with fail
    go_roundw
    case rel=>
     refine ⟨k+1,by omega,by go_num,fun i m' hi' hm'=>?_,HM5.out⟩
     by_cases hik:i<k
     ·exact HNO.out i m' hik hm'
     ·obtain rfl:i=k:=by omega
      rw [HMM.out] at hm';cases hm';exact hs
    case measure=>simp [intOf];omega
  ·have HF:=Hmq (zJy p ms (fun i m hm=>HNO.out i m (by have:=(List.getElem?_eq_some_iff.1 hm).1;omega) hm))
   go_wp2_with fail
   go_ret
   exact ⟨by rw [HF.out];rfl,HM.out⟩
def zXn(d:zAz)(l:List Value):Prop:=l=[.string d.key,.string d.val,.bool d.gone]
theorem zSo(f L:Nat)(caps:Array Value)(p:zAz->Bool)(v:Value)(ms:List zAz)(w:World)(C:World->Prop)(hv:SlR w L 3 zXn v ms)(hA:AskG f caps (fun d=>.agg #[.string d.key,.string d.val,.bool d.gone]) ms p C)(hC:C w)(hf:ms.length<=1000000) :
  Calls Tryz.prog 172 #[v,.func (.func f) #[] caps] w fun e w'=>e=.returned (.int .i64 (idxI (ms.findIdx? p)))/\Mod zAb w w':=by
 have HV:=Hmq hv
 obtain ⟨a,cap,rfl,hc1,hc2⟩:=SlR.slice hv
 have HA:=Hmq hA
 have HCC:=Hmq hC
 have hen:=hA.enter
 clear hv hA hC
 go_enter Tryz.func172,Tryz.ntmps172
 go_wp2_with fail
 go_loopw [8] (fun i wr=>∃ k:Nat,k<=ms.length/\i=.int .i64 k/\(∀ i m,i<k->ms[i]?=some m->p m=false)/\Mod zAb w wr) (fun i _=>ms.length - (intOf i).toNat)
 case atStart=>exact ⟨0,Nat.zero_le _,rfl,fun i m h=>by omega,Mod.refl _ _⟩
 case round=>
  obtain ⟨k,hk,rfl,hno,hM⟩:=hrel
  have HNO:=Hmq hno
  have HM:=Hmq hM
  clear hno hM
  by_cases hlt:k<ms.length
  ·obtain ⟨m,hm⟩:∃ m,ms[k]?=some m:=⟨_,List.getElem?_eq_getElem hlt⟩
   obtain ⟨b,off,l,rfl,_,hl,_,hcl⟩:=SlR.at HV.out hm
   unfold zXn at hl
   subst hl
   have p0:=HM.out.cell (hcl 0 _ rfl) id
   simp only [Nat.add_zero] at p0
   have p1:=HM.out.cell (hcl 1 _ rfl) id
   have p2:=HM.out.cell (hcl 2 _ rfl) id
   have HC:=Hmq (HA.out.ask m (List.mem_of_getElem? hm) wr (HA.out.keep _ _ HCC.out HM.out))
   have HMM:=Hmq hm
   have hltI:(k:Int)<(ms.length:Int):=by omega
   have hlt0:(0:Int)<=(k:Int):=by omega
   clear hm hcl
   go_wp2_with fail
   refine HC.out.mono ?_
   rintro e w5 ⟨rfl,hm5⟩
   have HM5:=Hmq (HM.out.trans hm5)
   clear HC hm5
   cases hs:p m with
   | true=>
    have HF:=Hmq (zPx p ms k HNO.out m HMM.out hs)
    go_wp2_with fail
    go_ret
    exact ⟨by rw [HF.out];rfl,HM5.out⟩
   | false=>
    go_wp2_with fail
    go_roundw
    case rel=>
     refine ⟨k+1,by omega,by go_num,fun i m' hi' hm'=>?_,HM5.out⟩
     by_cases hik:i<k
     ·exact HNO.out i m' hik hm'
     ·obtain rfl:i=k:=by omega
      rw [HMM.out] at hm';cases hm';exact hs
    case measure=>simp [intOf];omega
  ·have HF:=Hmq (zJy p ms (fun i m hm=>HNO.out i m (by have:=(List.getElem?_eq_some_iff.1 hm).1;omega) hm))
   go_wp2_with fail
   go_ret
   exact ⟨by rw [HF.out];rfl,HM.out⟩
def zZt(d:(CmdD × Value))(l:List Value):Prop:=l=[.int .i64 d.1.kind,.int .i64 d.1.tx,.int .i64 d.1.time,d.2]
theorem yDy(f L:Nat)(caps:Array Value)(p:(CmdD × Value)->Bool)(v:Value)(ms:List (CmdD × Value))(w:World)(C:World->Prop)(hv:SlR w L 4 zZt v ms)(hA:AskG f caps (fun d=>.agg #[.int .i64 d.1.kind,.int .i64 d.1.tx,.int .i64 d.1.time,d.2]) ms p C)(hC:C w)(hf:ms.length<=1000000) :
  Calls Tryz.prog 197 #[v,.func (.func f) #[] caps] w fun e w'=>e=.returned (.int .i64 (idxI (ms.findIdx? p)))/\Mod zAb w w':=by
 have HV:=Hmq hv
 obtain ⟨a,cap,rfl,hc1,hc2⟩:=SlR.slice hv
 have HA:=Hmq hA
 have HCC:=Hmq hC
 have hen:=hA.enter
 clear hv hA hC
 go_enter Tryz.func197,Tryz.ntmps197
 go_wp2_with fail
 go_loopw [8] (fun i wr=>∃ k:Nat,k<=ms.length/\i=.int .i64 k/\(∀ i m,i<k->ms[i]?=some m->p m=false)/\Mod zAb w wr) (fun i _=>ms.length - (intOf i).toNat)
 case atStart=>exact ⟨0,Nat.zero_le _,rfl,fun i m h=>by omega,Mod.refl _ _⟩
 case round=>
  obtain ⟨k,hk,rfl,hno,hM⟩:=hrel
  have HNO:=Hmq hno
  have HM:=Hmq hM
  clear hno hM
  by_cases hlt:k<ms.length
  ·obtain ⟨m,hm⟩:∃ m,ms[k]?=some m:=⟨_,List.getElem?_eq_getElem hlt⟩
   obtain ⟨b,off,l,rfl,_,hl,_,hcl⟩:=SlR.at HV.out hm
   unfold zZt at hl
   subst hl
   have p0:=HM.out.cell (hcl 0 _ rfl) id
   simp only [Nat.add_zero] at p0
   have p1:=HM.out.cell (hcl 1 _ rfl) id
   have p2:=HM.out.cell (hcl 2 _ rfl) id
   have p3:=HM.out.cell (hcl 3 _ rfl) id
   have HC:=Hmq (HA.out.ask m (List.mem_of_getElem? hm) wr (HA.out.keep _ _ HCC.out HM.out))
   have HMM:=Hmq hm
   have hltI:(k:Int)<(ms.length:Int):=by omega
   have hlt0:(0:Int)<=(k:Int):=by omega
   clear hm hcl
   go_wp2_with fail
   refine HC.out.mono ?_
   rintro e w5 ⟨rfl,hm5⟩
   have HM5:=Hmq (HM.out.trans hm5)
   clear HC hm5
   cases hs:p m with
   | true=>
    have HF:=Hmq (zPx p ms k HNO.out m HMM.out hs)
    go_wp2_with fail
    go_ret
    exact ⟨by rw [HF.out];rfl,HM5.out⟩
   | false=>
    go_wp2_with fail
    go_roundw
    case rel=>
     refine ⟨k+1,by omega,by go_num,fun i m' hi' hm'=>?_,HM5.out⟩
     by_cases hik:i<k
     ·exact HNO.out i m' hik hm'
     ·obtain rfl:i=k:=by omega
      rw [HMM.out] at hm';cases hm';exact hs
    case measure=>simp [intOf];omega
  ·have HF:=Hmq (zJy p ms (fun i m hm=>HNO.out i m (by have:=(List.getElem?_eq_some_iff.1 hm).1;omega) hm))
   go_wp2_with fail
   go_ret
   exact ⟨by rw [HF.out];rfl,HM.out⟩
def ySr(d:ByteArray)(l:List Value):Prop:=l=[.string d]
theorem yDw(f L:Nat)(caps:Array Value)(p:ByteArray->Bool)(v:Value)(ms:List ByteArray)(w:World)(C:World->Prop)(hv:SlR w L 1 ySr v ms)(hA:AskG f caps (fun d=>.string d) ms p C)(hC:C w)(hf:ms.length<=1000000) :
  Calls Tryz.prog 190 #[v,.func (.func f) #[] caps] w fun e w'=>e=.returned (.int .i64 (idxI (ms.findIdx? p)))/\Mod zAb w w':=by
 have HV:=Hmq hv
 obtain ⟨a,cap,rfl,hc1,hc2⟩:=SlR.slice hv
 have HA:=Hmq hA
 have HCC:=Hmq hC
 have hen:=hA.enter
 clear hv hA hC
 go_enter Tryz.func190,Tryz.ntmps190
 go_wp2_with fail
 go_loopw [8] (fun i wr=>∃ k:Nat,k<=ms.length/\i=.int .i64 k/\(∀ i m,i<k->ms[i]?=some m->p m=false)/\Mod zAb w wr) (fun i _=>ms.length - (intOf i).toNat)
 case atStart=>exact ⟨0,Nat.zero_le _,rfl,fun i m h=>by omega,Mod.refl _ _⟩
 case round=>
  obtain ⟨k,hk,rfl,hno,hM⟩:=hrel
  have HNO:=Hmq hno
  have HM:=Hmq hM
  clear hno hM
  by_cases hlt:k<ms.length
  ·obtain ⟨m,hm⟩:∃ m,ms[k]?=some m:=⟨_,List.getElem?_eq_getElem hlt⟩
   obtain ⟨b,off,l,rfl,_,hl,_,hcl⟩:=SlR.at HV.out hm
   unfold ySr at hl
   subst hl
   have p0:=HM.out.cell (hcl 0 _ rfl) id
   simp only [Nat.add_zero,Nat.mul_one] at p0
   have HC:=Hmq (HA.out.ask m (List.mem_of_getElem? hm) wr (HA.out.keep _ _ HCC.out HM.out))
   have HMM:=Hmq hm
   have hltI:(k:Int)<(ms.length:Int):=by omega
   have hlt0:(0:Int)<=(k:Int):=by omega
   clear hm hcl
   go_wp2_with fail
   refine HC.out.mono ?_
   rintro e w5 ⟨rfl,hm5⟩
   have HM5:=Hmq (HM.out.trans hm5)
   clear HC hm5
   cases hs:p m with
   | true=>
    have HF:=Hmq (zPx p ms k HNO.out m HMM.out hs)
    go_wp2_with fail
    go_ret
    exact ⟨by rw [HF.out];rfl,HM5.out⟩
   | false=>
    go_wp2_with fail
    go_roundw
    case rel=>
     refine ⟨k+1,by omega,by go_num,fun i m' hi' hm'=>?_,HM5.out⟩
     by_cases hik:i<k
     ·exact HNO.out i m' hik hm'
     ·obtain rfl:i=k:=by omega
      rw [HMM.out] at hm';cases hm';exact hs
    case measure=>simp [intOf];omega
  ·have HF:=Hmq (zJy p ms (fun i m hm=>HNO.out i m (by have:=(List.getElem?_eq_some_iff.1 hm).1;omega) hm))
   go_wp2_with fail
   go_ret
   exact ⟨by rw [HF.out];rfl,HM.out⟩
def yHj(d:Int)(l:List Value):Prop:=l=[.int .i64 d]
theorem yDx(f L:Nat)(caps:Array Value)(p:Int->Bool)(v:Value)(ms:List Int)(w:World)(C:World->Prop)(hv:SlR w L 1 yHj v ms)(hA:AskG f caps (fun d=>.int .i64 d) ms p C)(hC:C w)(hf:ms.length<=1000000) :
  Calls Tryz.prog 174 #[v,.func (.func f) #[] caps] w fun e w'=>e=.returned (.int .i64 (idxI (ms.findIdx? p)))/\Mod zAb w w':=by
 have HV:=Hmq hv
 obtain ⟨a,cap,rfl,hc1,hc2⟩:=SlR.slice hv
 have HA:=Hmq hA
 have HCC:=Hmq hC
 have hen:=hA.enter
 clear hv hA hC
 go_enter Tryz.func174,Tryz.ntmps174
 go_wp2_with fail
 go_loopw [8] (fun i wr=>∃ k:Nat,k<=ms.length/\i=.int .i64 k/\(∀ i m,i<k->ms[i]?=some m->p m=false)/\Mod zAb w wr) (fun i _=>ms.length - (intOf i).toNat)
 case atStart=>exact ⟨0,Nat.zero_le _,rfl,fun i m h=>by omega,Mod.refl _ _⟩
 case round=>
  obtain ⟨k,hk,rfl,hno,hM⟩:=hrel
  have HNO:=Hmq hno
  have HM:=Hmq hM
  clear hno hM
  by_cases hlt:k<ms.length
  ·obtain ⟨m,hm⟩:∃ m,ms[k]?=some m:=⟨_,List.getElem?_eq_getElem hlt⟩
   obtain ⟨b,off,l,rfl,_,hl,_,hcl⟩:=SlR.at HV.out hm
   unfold yHj at hl
   subst hl
   have p0:=HM.out.cell (hcl 0 _ rfl) id
   simp only [Nat.add_zero,Nat.mul_one] at p0
   have HC:=Hmq (HA.out.ask m (List.mem_of_getElem? hm) wr (HA.out.keep _ _ HCC.out HM.out))
   have HMM:=Hmq hm
   have hltI:(k:Int)<(ms.length:Int):=by omega
   have hlt0:(0:Int)<=(k:Int):=by omega
   clear hm hcl
   go_wp2_with fail
   refine HC.out.mono ?_
   rintro e w5 ⟨rfl,hm5⟩
   have HM5:=Hmq (HM.out.trans hm5)
   clear HC hm5
   cases hs:p m with
   | true=>
    have HF:=Hmq (zPx p ms k HNO.out m HMM.out hs)
    go_wp2_with fail
    go_ret
    exact ⟨by rw [HF.out];rfl,HM5.out⟩
   | false=>
    go_wp2_with fail
    go_roundw
    case rel=>
     refine ⟨k+1,by omega,by go_num,fun i m' hi' hm'=>?_,HM5.out⟩
     by_cases hik:i<k
     ·exact HNO.out i m' hik hm'
     ·obtain rfl:i=k:=by omega
      rw [HMM.out] at hm';cases hm';exact hs
    case measure=>simp [intOf];omega
  ·have HF:=Hmq (zJy p ms (fun i m hm=>HNO.out i m (by have:=(List.getElem?_eq_some_iff.1 hm).1;omega) hm))
   go_wp2_with fail
   go_ret
   exact ⟨by rw [HF.out];rfl,HM.out⟩
theorem zUd(f L:Nat)(caps:Array Value)(p:ByteArray->Bool)(v:Value)(ms:List ByteArray)(w:World)(C:World->Prop)(hv:SlR w L 1 ySr v ms)(hA:AskG f caps (fun d=>.string d) ms p C)(hC:C w)(hf:ms.length<=1000000) :
  Calls Tryz.prog 139 #[v,.func (.func f) #[] caps] w fun e w'=>e=.returned (.bool (ms.any p))/\Mod zAb w w':=by
 have HI:=Hmq (yDw f L caps p v ms w C hv hA hC hf)
 obtain ⟨a,cap,rfl,hc1,hc2⟩:=SlR.slice hv
 have HAN:=Hmq (zYl p ms)
 clear hv hA
 go_enter Tryz.func139,Tryz.ntmps139
 go_wp2_with fail
 refine HI.out.mono ?_
 rintro e w1 ⟨rfl,hm⟩
 go_wp2_with fail
 go_ret
 exact ⟨by rw [<-HAN.out];rfl,hm⟩
theorem zUe(f L:Nat)(caps:Array Value)(p:Int->Bool)(v:Value)(ms:List Int)(w:World)(C:World->Prop)(hv:SlR w L 1 yHj v ms)(hA:AskG f caps (fun d=>.int .i64 d) ms p C)(hC:C w)(hf:ms.length<=1000000) :
  Calls Tryz.prog 117 #[v,.func (.func f) #[] caps] w fun e w'=>e=.returned (.bool (ms.any p))/\Mod zAb w w':=by
 have HI:=Hmq (yDx f L caps p v ms w C hv hA hC hf)
 obtain ⟨a,cap,rfl,hc1,hc2⟩:=SlR.slice hv
 have HAN:=Hmq (zYl p ms)
 clear hv hA
 go_enter Tryz.func117,Tryz.ntmps117
 go_wp2_with fail
 refine HI.out.mono ?_
 rintro e w1 ⟨rfl,hm⟩
 go_wp2_with fail
 go_ret
 exact ⟨by rw [<-HAN.out];rfl,hm⟩
end Go.Proofs.YtogaigioeohjaaaGreatDoor
