import Derived.Test.YtogaigioeohjaaaGreatDoorD46
set_option linter.unusedVariables false
set_option maxRecDepth 100000
set_option maxHeartbeats 16000000
namespace Go.Proofs.YtogaigioeohjaaaGreatDoor
open Go.RowKit Go.Lib Go.Maps
set_option maxHeartbeats 16000000
section
variable {P:Program} {md:Region.Mode} {ops:Array Oper} {C:World->Prop} {Q:Exit->Act->World->Prop}
theorem zRm(last i:Nat){oi:Oper}{fuel:Nat}{listed:Array Bool}{a:Act}{w:World}(hi:ops[i]?=some oi)(hd:oi.dst=none)(hr:Region.ready md ops listed=[i])
  (hw:Region.wanted oi (yielded ops a.tmps)=true) {w':World} (hrun:(execOp a.eval oi).run P w=.ok .skip w') (hC:C w')
  (h:zEt P md ops last C Q fuel (listed.setIfInBounds i true) a w'):zEt P md ops last C Q (fuel+1) listed a w:=by
 refine ⟨fun h0=>(by rw [hr] at h0;cases h0),fun j hj=>?_⟩
 rw [hr] at hj
 simp only [List.mem_singleton] at hj
 subst hj
 unfold wpOp
 simp only [hi,hw,if_true,Oper.wp,hrun,Oper.upon,hd]
 exact .inl ⟨.inr hC,h⟩
end
theorem yDo:∀ (fn:Fn) (first cap:Array Value) (w:World),(Instr.makeFunc fn first cap).run Tryz.prog w=.ok (.func fn first cap) w:=fun _ _ _ _=>rfl
theorem yCg{ss:Nat}{w:World}(line:ByteArray)(hl:line.size<=1000000)(hw:zBr line=[]) :
  Calls Tryz.prog 7 #[.pointer (some ⟨ss,0,none⟩),.string line] w fun e w'=>e=.returned (.string ⟨#[111,107]⟩)/\Mod zAb w w':=by
 have hmf:=yDo
 have HW:=Hmq (zRo line hl (w.alloc (.cells #[.string ⟨#[]⟩] 9)))
 rw [hw] at HW
 have hb0:Blk (w.alloc (.cells #[.string ⟨#[]⟩] 9)) w.heap.size [.string ⟨#[]⟩] 9:=Blk.new w [.string ⟨#[]⟩] _
 go_enter_defers Tryz.func7,Tryz.ntmps7
 go_wp2_with (first
  | (go_at_call 32;refine HW.out.mono ?_;rintro e w2 ⟨A,rfl,hA,ho,hm2⟩;(have z1:=(hb0.mod hm2 id).cell 0 rfl);(have z2:=(hb0.mod hm2 id).frozen 0);simp only [List.length_nil])
  | fail)
 have hb2:Blk (w2.setCell ⟨w.heap.size,0,none⟩ (.string ⟨#[111,107]⟩)) w.heap.size [.string ⟨#[111,107]⟩] 9:=(hb0.mod hm2 id).set 0 _
 have z3:=hb2.cell 0 rfl
 have HM:Hid (Mod zAb w (w2.setCell ⟨w.heap.size,0,none⟩ (.string ⟨#[111,107]⟩))):=(((Mod.refl zAb w).alloc _).trans hm2).setCell (fun e=>(Nat.lt_irrefl _ e).elim) _
 refine leaves_cons (f:=31) (args:=#[.pointer (some ⟨w.heap.size,0,none⟩)]) (by simp) (by simp [go_sem]) ?_
 refine (zWi ⟨w.heap.size,0,none⟩ _).mono ?_
 rintro e u' w'' ⟨rfl,rfl,rfl⟩
 simp [Leaves,settle,results,Tryz.results7,go_sem,z3]
 exact HM.out
theorem rowW{w:World}{B A:Nat}{ws:List ByteArray}(hp:0<ws.length)(hrow:w.ownsRow B 9 1 (.slice (some ⟨A,0,none⟩) ws.length ws.length) ws.length (ws.map Value.string)) :
  A<w.heap.size/\∀ (i:Nat) x,ws[i]?=some x->w.cell? ⟨A,i,none⟩=some (.string x):=by
 have hcl:=hrow.cells (g:=A) rfl
 have hall:∀ (i:Nat) x,ws[i]?=some x->w.cell? ⟨A,i,none⟩=some (.string x):=fun i x hi=>by
  have:=hcl i (.string x) (by rw [List.getElem?_map,hi];rfl)
  rw [Go.WideShapes.add_plain,Nat.zero_add] at this
  exact this
 refine ⟨?_,hall⟩
 have:=World.block_lt_of_cell? w _ (hall 0 _ (List.getElem?_eq_getElem hp))
 exact this
def AnsP(w:World)(Z:Nat->World->World->Prop)(er:Int)(t:ByteArray)(e:Ending)(w':World):Prop:=e=.returned (.string (if er=0 then t else zGy er))/\∃ A w1 w2 w3 v,Mod zAb w w1/\Blk w1 w.heap.size [.string ⟨#[]⟩] 9/\Z A w1 w2/\Mod zAb w2 w3/\w'=w3.setCell ⟨w.heap.size,0,none⟩ v
theorem yCf{ss mb:Nat}{w:World}{hv:Value}(line:ByteArray)(hl:line.size<=1000000)(ws:List ByteArray)(hwl:ws.length<=1000000)(hws:zBr line=ws)(x0:ByteArray)(h0:ws[0]?=some x0)(hx0:x0.size<=1000000)(hb:Blk w ss [hv,.map (some mb)] 45)(hmap:OrdP w ss mb)
  {f:Nat} {k:Int} (ho:zPl x0=some (f,k)) (hk:(ws.length:Int) - 1=k) (er:Int) (t:ByteArray) (her:zBc er) {Z:Nat->World->World->Prop}
  (hZ:∀ A w1 w2,Z A w1 w2->Mod zAb w w1->VD w2/\∀ old,Blk w1 w.heap.size [old] 9->Blk w2 w.heap.size [old] 9)
  (HDO:∀ A w1,Mod zAb w w1->w.heap.size<A->A<w1.heap.size->(∀ (i:Nat) x,ws[i]?=some x->w1.cell? ⟨A,i,none⟩=some (.string x))->Calls Tryz.prog f #[.pointer (some ⟨ss,0,none⟩),.slice (some ⟨A,0,none⟩) ws.length ws.length] w1 fun e w'=>(e=if er=0 then .returned (.string t) else zCv er)/\Z A w1 w') :
  Calls Tryz.prog 7 #[.pointer (some ⟨ss,0,none⟩),.string line] w (AnsP w Z er t):=by
 have hmf:=yDo
 have hen:=yHm ho
 have HEN:=Hmq hen
 have HW:=Hmq (zRo line hl (w.alloc (.cells #[.string ⟨#[]⟩] 9)))
 rw [hws] at HW
 have hb0:Blk (w.alloc (.cells #[.string ⟨#[]⟩] 9)) w.heap.size [.string ⟨#[]⟩] 9:=Blk.new w [.string ⟨#[]⟩] _
 have HB0:=Hmq hb0
 have HB:=Hmq hb
 have HMP:=Hmq hmap
 have HDD:=Hmq HDO
 have HZZ:=Hmq hZ
 have hlen:¬ ws.length=0:=by intro e;rw [List.length_eq_zero_iff.1 e] at h0;cases h0
 have hlp:0<ws.length:=by omega
 have hle:((ws.length:Int) == 0)=false:=beq_eq_false_iff_ne.2 (by omega)
 have HH0:=Hmq h0
 have HHK:=Hmq hk
 clear hb0 hb hmap HDO hZ h0 hk hen
 go_enter_defers Tryz.func7,Tryz.ntmps7
 go_upto_region 5 with (first
  | (go_at_call 32;refine HW.out.mono ?_;rintro e w2 ⟨A,rfl,hA,hrow,hm2⟩)
  | fail)
 have HM2:Mod zAb w w2:=((Mod.refl zAb w).alloc _).trans hm2
 obtain ⟨hAl,hcl⟩:=rowW hlp hrow
 have hA1:w.heap.size<A:=by have:=hA;simp only [World.size_alloc] at this;omega
 have HB2:=Hmq (HB0.out.mod hm2 id)
 have HCL:=Hmq hcl
 have HC:Hid (w2.drew.cell? ⟨ss,1,none⟩=some (.map (some mb))/\w2.drew.cell? ⟨A,0,none⟩=some (.string x0)/\OrdP w2.drew ss mb):=⟨(HB.out.mod HM2 id).cell 1 rfl,hcl 0 x0 HH0.out,HMP.out.mod (HM2.drew) id⟩
 clear hcl hrow hA
 refine zEr fun fr hfr=>?_
 refine zDk fun Q1 hQ1=>?_
 have HQ1:=Hmq hQ1
 clear hQ1
 refine wp_mono (Q:=fun e a w=>e=.normal/\Q1 .normal a w) ?_ (fun e a w h=>by rw [h.1];exact h.2)
 have hsz:fr.tmps.size=40:=by rw [hfr];rfl
 obtain ⟨_,t0⟩:∃ h:0<fr.tmps.size,fr.tmps[0]=.pointer (some ⟨ss,0,none⟩):=Array.getElem?_eq_some_iff.1 (by rw [hfr];rfl)
 obtain ⟨_,t5⟩:∃ h:5<fr.tmps.size,fr.tmps[5]=.slice (some ⟨A,0,none⟩) ws.length ws.length:=Array.getElem?_eq_some_iff.1 (by rw [hfr];rfl)
 have HFR:=Hmq hfr
 clear hfr
 refine zBo 99 (fun wq=>wq.cell? ⟨ss,1,none⟩=some (.map (some mb))/\wq.cell? ⟨A,0,none⟩=some (.string x0)/\OrdP wq ss mb) rfl ?_
 refine zAc 99 0 15 (.pointer (some ⟨ss,0,none⟩)) rfl rfl (by kernel_rfl) (by kernel_rfl) (by kernel_rfl) (by kernel_rfl) (fun c a w h=>nomatch h.1) HC.out ⟨by rfl,fun wq hq=>by obtain ⟨q0,q1,q2⟩:=hq;go_simp⟩ ?_
 refine zAc 99 1 16 (.pointer (some ⟨ss,0,none⟩)) rfl rfl (by kernel_rfl) (by kernel_rfl) (by kernel_rfl) (by kernel_rfl) (fun c a w h=>nomatch h.1) HC.out ⟨by rfl,fun wq hq=>by obtain ⟨q0,q1,q2⟩:=hq;go_simp⟩ ?_
 refine zAc 99 2 17 (.pointer (some ⟨ss,1,none⟩)) rfl rfl (by kernel_rfl) (by kernel_rfl) (by kernel_rfl) (by kernel_rfl) (fun c a w h=>nomatch h.1) HC.out ⟨by rfl,fun wq hq=>by obtain ⟨q0,q1,q2⟩:=hq;go_simp⟩ ?_
 refine zAc 99 3 18 (.map (some mb)) rfl rfl (by kernel_rfl) (by kernel_rfl) (by kernel_rfl) (by kernel_rfl) (fun c a w h=>nomatch h.1) HC.out ⟨by rfl,fun wq hq=>by obtain ⟨q0,q1,q2⟩:=hq;go_simp⟩ ?_
 refine zAc 99 4 19 (.slice (some ⟨A,0,none⟩) ws.length ws.length) rfl rfl (by kernel_rfl) (by kernel_rfl) (by kernel_rfl) (by kernel_rfl) (fun c a w h=>nomatch h.1) HC.out ⟨by rfl,fun wq hq=>by obtain ⟨q0,q1,q2⟩:=hq;go_simp⟩ ?_
 refine zAc 99 5 20 (.pointer (some ⟨A,0,none⟩)) rfl rfl (by kernel_rfl) (by kernel_rfl) (by kernel_rfl) (by kernel_rfl) (fun c a w h=>nomatch h.1) HC.out ⟨by rfl,fun wq hq=>by obtain ⟨q0,q1,q2⟩:=hq;go_simp⟩ ?_
 refine zAc 99 6 21 (.string x0) rfl rfl (by kernel_rfl) (by kernel_rfl) (by kernel_rfl) (by kernel_rfl) (fun c a w h=>nomatch h.1) HC.out ⟨by rfl,fun wq hq=>by obtain ⟨q0,q1,q2⟩:=hq;go_simp⟩ ?_
 refine zAc 99 7 22 (.tuple #[ordV ss (some (f,k)),.bool true]) rfl rfl (by kernel_rfl) (by kernel_rfl) (by kernel_rfl) (by kernel_rfl) (fun c a w h=>nomatch h.1) HC.out ⟨by rfl,fun wq hq=>by obtain ⟨q0,q1,q2⟩:=hq;have q3:=q2.look x0 hx0;rw [ho] at q3;simp only [Option.isSome_some] at q3;go_simp⟩ ?_
 refine zAc 99 8 14 (.tuple #[ordV ss (some (f,k)),.bool true]) rfl rfl (by kernel_rfl) (by kernel_rfl) (by kernel_rfl) (by kernel_rfl) (fun c a w h=>nomatch h.1) HC.out ⟨by rfl,fun wq hq=>by obtain ⟨q0,q1,q2⟩:=hq;go_simp⟩ ?_
 refine zAc 99 9 23 (ordV ss (some (f,k))) rfl rfl (by kernel_rfl) (by kernel_rfl) (by kernel_rfl) (by kernel_rfl) (fun c a w h=>nomatch h.1) HC.out ⟨by rfl,fun wq hq=>by obtain ⟨q0,q1,q2⟩:=hq;go_simp⟩ ?_
 refine zAc 99 10 24 (.bool true) rfl rfl (by kernel_rfl) (by kernel_rfl) (by kernel_rfl) (by kernel_rfl) (fun c a w h=>nomatch h.1) HC.out ⟨by rfl,fun wq hq=>by obtain ⟨q0,q1,q2⟩:=hq;go_simp⟩ ?_
 obtain ⟨w3,hw3⟩:∃ q,q=w2.drew.alloc (.cells #[.int .i64 0,.nilFunc] 48):=⟨_,rfl⟩
 have HM3:Mod zAb w w3:=by rw [hw3];exact (HM2.drew).alloc _
 have hb3:Blk w3 w2.heap.size [.int .i64 0,.nilFunc] 48:=by rw [hw3];exact Blk.new w2.drew _ _
 have HC3:Hid (w3.cell? ⟨ss,1,none⟩=some (.map (some mb))/\w3.cell? ⟨A,0,none⟩=some (.string x0)/\OrdP w3 ss mb):=by
  rw [hw3];exact ⟨((Mod.refl zAb w2.drew).alloc _).cell HC.out.1 id,((Mod.refl zAb w2.drew).alloc _).cell HC.out.2.1 id,HC.out.2.2.mod ((Mod.refl zAb w2.drew).alloc _) id⟩
 refine zBg 99 11 6 rfl rfl (by kernel_rfl) (by rfl) (v:=.pointer (some ⟨w2.heap.size,0,none⟩)) (w':=w3) (by rw [hw3];go_simp) HC3.out ?_
 have z1:=hb3.cell 0 rfl
 have z2:=hb3.cell 1 rfl
 have z3:=hb3.frozen 0
 have z4:=hb3.frozen 1
 obtain ⟨w4,hw4⟩:∃ q,q=(w3.setCell ⟨w2.heap.size,0,none⟩ (.int .i64 k)).setCell ⟨w2.heap.size,1,none⟩ (.func (.func f) #[.pointer (some ⟨ss,0,none⟩)] #[]):=⟨_,rfl⟩
 have hb4:Blk w4 w2.heap.size [.int .i64 k,.func (.func f) #[.pointer (some ⟨ss,0,none⟩)] #[]] 48:=by rw [hw4];exact (hb3.set 0 _).set 1 _
 have HM4:Mod zAb w w4:=by
  rw [hw4]
  have hlt:w.heap.size<=w2.heap.size:=HM2.size
  exact (HM3.setCell (p:=⟨w2.heap.size,0,none⟩) (fun e=>absurd e (by show ¬ w2.heap.size<w.heap.size;omega)) _).setCell (p:=⟨w2.heap.size,1,none⟩) (fun e=>absurd e (by show ¬ w2.heap.size<w.heap.size;omega)) _
 have HM24:Mod zAb w2 w4:=by
  rw [hw4,hw3]
  exact ((((Mod.refl zAb w2).drew).alloc _).setCell (p:=⟨w2.heap.size,0,none⟩) (fun e=>absurd e (Nat.lt_irrefl _)) _).setCell (p:=⟨w2.heap.size,1,none⟩) (fun e=>absurd e (Nat.lt_irrefl _)) _
 have HC4:Hid (w4.cell? ⟨ss,1,none⟩=some (.map (some mb))/\w4.cell? ⟨A,0,none⟩=some (.string x0)/\OrdP w4 ss mb):=⟨(HB.out.mod HM4 id).cell 1 rfl,HM24.cell (HCL.out 0 x0 HH0.out) id,HMP.out.mod HM4 id⟩
 refine zRm 99 12 rfl rfl (by kernel_rfl) (by rfl) (w':=w4) (by rw [hw4];unfold ordV;go_simp) HC4.out ?_
 refine zAc 99 13 7 (.bool true) rfl rfl (by kernel_rfl) (by kernel_rfl) (by kernel_rfl) (by kernel_rfl) (fun c a w h=>nomatch h.1) HC4.out ⟨by rfl,fun wq hq=>by obtain ⟨q0,q1,q2⟩:=hq;go_simp⟩ ?_
 refine ⟨by kernel_rfl,rfl,?_⟩
 have hfin:∀ B:Act,B=⟨#[.pointer (some ⟨ss,0,none⟩),.string line,undef,undef,.pointer (some ⟨w.heap.size,0,none⟩),.slice (some ⟨A,0,none⟩) ws.length ws.length,.pointer (some ⟨w2.heap.size,0,none⟩),.bool true,.func (.func 31) #[] #[.pointer (some ⟨w.heap.size,0,none⟩)],.string line,.slice (some ⟨A,0,none⟩) ws.length ws.length,.slice (some ⟨A,0,none⟩) ws.length ws.length,.int .i64 ws.length,.bool false,.tuple #[ordV ss (some (f,k)),.bool true],.pointer (some ⟨ss,0,none⟩),.pointer (some ⟨ss,0,none⟩),.pointer (some ⟨ss,1,none⟩),.map (some mb),.slice (some ⟨A,0,none⟩) ws.length ws.length,.pointer (some ⟨A,0,none⟩),.string x0,.tuple #[ordV ss (some (f,k)),.bool true],ordV ss (some (f,k)),.bool true,undef,undef,undef,undef,undef,undef,undef,undef,undef,undef,undef,undef,undef,undef,undef],[{ target:=.fn (.func 31) #[.pointer (some ⟨w.heap.size,0,none⟩)],args:=#[] }]⟩->Q1 .normal B w4:=fun B hB=>by
  subst hB
  have hQ1:=HQ1.out
  subst hQ1
  have y1:=hb4.cell 0 rfl
  have y2:=hb4.cell 1 rfl
  have hen:=HEN.out
  have hne:((ws.length:Int) - 1 != k)=false:=by rw [HHK.out];simp
  dsimp only
  have hCall:=HDD.out A w4 HM4 hA1 (Nat.lt_of_lt_of_le hAl HM24.size) (fun i x hi=>HM24.cell (HCL.out i x hi) id)
  have HB4:=Hmq (HB2.out.mod HM24 id)
  have hlt4:w.heap.size<w4.heap.size:=(HB2.out.mod HM24 id).lt
  clear t0 t5 hsz HFR HC HC3 HC4 z1 z2 z3 z4 hb3 hw3 hw4 HW HMP HB hmf hws HDD hb4
  by_cases h00:er=0
  ·subst h00
   rw [if_pos rfl] at hCall
   have HCA:=Hmq hCall
   clear hCall
   go_wp2_with fail
   refine HCA.out.mono ?_
   rintro e w5 ⟨rfl,hz5⟩
   obtain ⟨hvd5,hbz⟩:=HZZ.out A w4 w5 hz5 HM4
   have hb5:=hbz _ HB4.out
   have z5:=hb5.cell 0 rfl
   have z6:=hb5.frozen 0
   have HB5:=Hmq hb5
   have HZ5:=Hmq hz5
   clear hbz hb5 hz5
   go_wp2_with fail
   have hb6:Blk (w5.setCell ⟨w.heap.size,0,none⟩ (.string t)) w.heap.size [.string t] 9:=HB5.out.set 0 _
   have z7:=hb6.cell 0 rfl
   have HF:Hid (AnsP w Z 0 t (.returned (.string t)) (w5.setCell ⟨w.heap.size,0,none⟩ (.string t))):=⟨by simp,A,w4,w5,w5,_,HM4,HB4.out,HZ5.out,Mod.refl _ _,rfl⟩
   refine leaves_cons (f:=31) (args:=#[.pointer (some ⟨w.heap.size,0,none⟩)]) (by simp) (by simp [go_sem]) ?_
   refine (zWi ⟨w.heap.size,0,none⟩ _).mono ?_
   rintro e u' w'' ⟨rfl,rfl,rfl⟩
   simp [Leaves,settle,results,Tryz.results7,go_sem,z7]
   exact HF.out
  ·rw [if_neg h00] at hCall
   have HCA:=Hmq hCall
   clear hCall
   go_wp2_with fail
   refine HCA.out.mono ?_
   rintro e w5 ⟨he5,hz5⟩
   obtain rfl:e=.panicked [{ v:=.iface 25 (.int .i64 er),recovered:=false }]:=he5
   obtain ⟨hvd5,hbz⟩:=HZZ.out A w4 w5 hz5 HM4
   have HB5:=Hmq (hbz _ HB4.out)
   have HZ5:=Hmq hz5
   clear hbz hz5
   have HF:Hid (∀ w6,Mod zAb w5 w6->AnsP w Z er t (.returned (.string (zGy er))) (w6.setCell ⟨w.heap.size,0,none⟩ (.string (zGy er)))):=fun w6 hm6=>⟨by rw [if_neg h00],A,w4,w5,w6,_,HM4,HB4.out,HZ5.out,hm6,rfl⟩
   refine leaves_cons (f:=31) (args:=#[.pointer (some ⟨w.heap.size,0,none⟩)]) (by simp) (by simp [go_sem]) ?_
   refine (zLu w.heap.size (.string ⟨#[]⟩) er her [] w5 hvd5 HB5.out).mono ?_
   rintro e u' w'' ⟨rfl,rfl,w6,hm6,rfl⟩
   have z8:=((HB5.out.mod hm6 id).set 0 (.string (zGy er))).cell 0 rfl
   simp [Leaves,settle,results,Tryz.results7,go_sem,z8]
   exact HF.out w6 hm6
 exact hfin _ (by rw [HFR.out];kernel_rfl)
end Go.Proofs.YtogaigioeohjaaaGreatDoor
namespace Go.Proofs.YtogaigioeohjaaaGreatDoor
open Go.RowKit Go.Lib Go.Maps
set_option maxHeartbeats 16000000
theorem zWn{ss mb:Nat}{w:World}{hv:Value}(line:ByteArray)(hl:line.size<=1000000)(ws:List ByteArray)(hwl:ws.length<=1000000)(hws:zBr line=ws)(x0:ByteArray)(h0:ws[0]?=some x0)(hb:Blk w ss [hv,.map (some mb)] 45)(hmap:OrdP w ss mb)(hvd:VD w)
  (k:Int) (fv:Value) (ok:Bool) (hlk:∀ wq,OrdP wq ss mb->(Instr.lookup 43 (.map (some mb)) (.string x0) true).run Tryz.prog wq=.ok (.tuple #[.agg #[.int .i64 k,fv],.bool ok]) wq) (hfv:fv=.nilFunc\/∃ f,fv=.func (.func f) #[.pointer (some ⟨ss,0,none⟩)] #[]) (hbad:ok=false\/(ws.length:Int) - 1≠k) :
  Calls Tryz.prog 7 #[.pointer (some ⟨ss,0,none⟩),.string line] w fun e w'=>e=.returned (.string (zGy 3))/\Mod zAb w w':=by
 have hmf:=yDo
 have HFV:=Hmq hfv
 clear hfv
 have HW:=Hmq (zRo line hl (w.alloc (.cells #[.string ⟨#[]⟩] 9)))
 rw [hws] at HW
 have hb0:Blk (w.alloc (.cells #[.string ⟨#[]⟩] 9)) w.heap.size [.string ⟨#[]⟩] 9:=Blk.new w [.string ⟨#[]⟩] _
 have HB0:=Hmq hb0
 have HB:=Hmq hb
 have HMP:=Hmq hmap
 have HVD:=Hmq hvd
 have HLK:=Hmq hlk
 have hlen:¬ ws.length=0:=by intro e;rw [List.length_eq_zero_iff.1 e] at h0;cases h0
 have hlp:0<ws.length:=by omega
 have hle:((ws.length:Int) == 0)=false:=beq_eq_false_iff_ne.2 (by omega)
 have HH0:=Hmq h0
 clear hb0 hb hmap h0 hvd hlk
 go_enter_defers Tryz.func7,Tryz.ntmps7
 go_upto_region 5 with (first
  | (go_at_call 32;refine HW.out.mono ?_;rintro e w2 ⟨A,rfl,hA,hrow,hm2⟩)
  | fail)
 have HM2:Mod zAb w w2:=((Mod.refl zAb w).alloc _).trans hm2
 obtain ⟨hAl,hcl⟩:=rowW hlp hrow
 have hA1:w.heap.size<A:=by have:=hA;simp only [World.size_alloc] at this;omega
 have HB2:=Hmq (HB0.out.mod hm2 id)
 have HCL:=Hmq hcl
 have HC:Hid (w2.drew.cell? ⟨ss,1,none⟩=some (.map (some mb))/\w2.drew.cell? ⟨A,0,none⟩=some (.string x0)/\OrdP w2.drew ss mb):=⟨(HB.out.mod HM2 id).cell 1 rfl,hcl 0 x0 HH0.out,HMP.out.mod (HM2.drew) id⟩
 clear hcl hrow hA
 refine zEr fun fr hfr=>?_
 refine zDk fun Q1 hQ1=>?_
 have HQ1:=Hmq hQ1
 clear hQ1
 refine wp_mono (Q:=fun e a w=>e=.normal/\Q1 .normal a w) ?_ (fun e a w h=>by rw [h.1];exact h.2)
 have hsz:fr.tmps.size=40:=by rw [hfr];rfl
 obtain ⟨_,t0⟩:∃ h:0<fr.tmps.size,fr.tmps[0]=.pointer (some ⟨ss,0,none⟩):=Array.getElem?_eq_some_iff.1 (by rw [hfr];rfl)
 obtain ⟨_,t5⟩:∃ h:5<fr.tmps.size,fr.tmps[5]=.slice (some ⟨A,0,none⟩) ws.length ws.length:=Array.getElem?_eq_some_iff.1 (by rw [hfr];rfl)
 have HFR:=Hmq hfr
 clear hfr
 refine zBo 99 (fun wq=>wq.cell? ⟨ss,1,none⟩=some (.map (some mb))/\wq.cell? ⟨A,0,none⟩=some (.string x0)/\OrdP wq ss mb) rfl ?_
 refine zAc 99 0 15 (.pointer (some ⟨ss,0,none⟩)) rfl rfl (by kernel_rfl) (by kernel_rfl) (by kernel_rfl) (by kernel_rfl) (fun c a w h=>nomatch h.1) HC.out ⟨by rfl,fun wq hq=>by obtain ⟨q0,q1,q2⟩:=hq;go_simp⟩ ?_
 refine zAc 99 1 16 (.pointer (some ⟨ss,0,none⟩)) rfl rfl (by kernel_rfl) (by kernel_rfl) (by kernel_rfl) (by kernel_rfl) (fun c a w h=>nomatch h.1) HC.out ⟨by rfl,fun wq hq=>by obtain ⟨q0,q1,q2⟩:=hq;go_simp⟩ ?_
 refine zAc 99 2 17 (.pointer (some ⟨ss,1,none⟩)) rfl rfl (by kernel_rfl) (by kernel_rfl) (by kernel_rfl) (by kernel_rfl) (fun c a w h=>nomatch h.1) HC.out ⟨by rfl,fun wq hq=>by obtain ⟨q0,q1,q2⟩:=hq;go_simp⟩ ?_
 refine zAc 99 3 18 (.map (some mb)) rfl rfl (by kernel_rfl) (by kernel_rfl) (by kernel_rfl) (by kernel_rfl) (fun c a w h=>nomatch h.1) HC.out ⟨by rfl,fun wq hq=>by obtain ⟨q0,q1,q2⟩:=hq;go_simp⟩ ?_
 refine zAc 99 4 19 (.slice (some ⟨A,0,none⟩) ws.length ws.length) rfl rfl (by kernel_rfl) (by kernel_rfl) (by kernel_rfl) (by kernel_rfl) (fun c a w h=>nomatch h.1) HC.out ⟨by rfl,fun wq hq=>by obtain ⟨q0,q1,q2⟩:=hq;go_simp⟩ ?_
 refine zAc 99 5 20 (.pointer (some ⟨A,0,none⟩)) rfl rfl (by kernel_rfl) (by kernel_rfl) (by kernel_rfl) (by kernel_rfl) (fun c a w h=>nomatch h.1) HC.out ⟨by rfl,fun wq hq=>by obtain ⟨q0,q1,q2⟩:=hq;go_simp⟩ ?_
 refine zAc 99 6 21 (.string x0) rfl rfl (by kernel_rfl) (by kernel_rfl) (by kernel_rfl) (by kernel_rfl) (fun c a w h=>nomatch h.1) HC.out ⟨by rfl,fun wq hq=>by obtain ⟨q0,q1,q2⟩:=hq;go_simp⟩ ?_
 refine zAc 99 7 22 (.tuple #[.agg #[.int .i64 k,fv],.bool ok]) rfl rfl (by kernel_rfl) (by kernel_rfl) (by kernel_rfl) (by kernel_rfl) (fun c a w h=>nomatch h.1) HC.out ⟨by rfl,fun wq hq=>by obtain ⟨q0,q1,q2⟩:=hq;have q3:=HLK.out wq q2;go_simp⟩ ?_
 refine zAc 99 8 14 (.tuple #[.agg #[.int .i64 k,fv],.bool ok]) rfl rfl (by kernel_rfl) (by kernel_rfl) (by kernel_rfl) (by kernel_rfl) (fun c a w h=>nomatch h.1) HC.out ⟨by rfl,fun wq hq=>by obtain ⟨q0,q1,q2⟩:=hq;go_simp⟩ ?_
 refine zAc 99 9 23 (.agg #[.int .i64 k,fv]) rfl rfl (by kernel_rfl) (by kernel_rfl) (by kernel_rfl) (by kernel_rfl) (fun c a w h=>nomatch h.1) HC.out ⟨by rfl,fun wq hq=>by obtain ⟨q0,q1,q2⟩:=hq;go_simp⟩ ?_
 refine zAc 99 10 24 (.bool ok) rfl rfl (by kernel_rfl) (by kernel_rfl) (by kernel_rfl) (by kernel_rfl) (fun c a w h=>nomatch h.1) HC.out ⟨by rfl,fun wq hq=>by obtain ⟨q0,q1,q2⟩:=hq;go_simp⟩ ?_
 obtain ⟨w3,hw3⟩:∃ q,q=w2.drew.alloc (.cells #[.int .i64 0,.nilFunc] 48):=⟨_,rfl⟩
 have HM3:Mod zAb w w3:=by rw [hw3];exact (HM2.drew).alloc _
 have hb3:Blk w3 w2.heap.size [.int .i64 0,.nilFunc] 48:=by rw [hw3];exact Blk.new w2.drew _ _
 have HC3:Hid (w3.cell? ⟨ss,1,none⟩=some (.map (some mb))/\w3.cell? ⟨A,0,none⟩=some (.string x0)/\OrdP w3 ss mb):=by
  rw [hw3];exact ⟨((Mod.refl zAb w2.drew).alloc _).cell HC.out.1 id,((Mod.refl zAb w2.drew).alloc _).cell HC.out.2.1 id,HC.out.2.2.mod ((Mod.refl zAb w2.drew).alloc _) id⟩
 refine zBg 99 11 6 rfl rfl (by kernel_rfl) (by rfl) (v:=.pointer (some ⟨w2.heap.size,0,none⟩)) (w':=w3) (by rw [hw3];go_simp) HC3.out ?_
 have z1:=hb3.cell 0 rfl
 have z2:=hb3.cell 1 rfl
 have z3:=hb3.frozen 0
 have z4:=hb3.frozen 1
 obtain ⟨w4,hw4⟩:∃ q,q=(w3.setCell ⟨w2.heap.size,0,none⟩ (.int .i64 k)).setCell ⟨w2.heap.size,1,none⟩ fv:=⟨_,rfl⟩
 have hb4:Blk w4 w2.heap.size [.int .i64 k,fv] 48:=by rw [hw4];exact (hb3.set 0 _).set 1 _
 have HM4:Mod zAb w w4:=by
  rw [hw4]
  have hlt:w.heap.size<=w2.heap.size:=HM2.size
  exact (HM3.setCell (p:=⟨w2.heap.size,0,none⟩) (fun e=>absurd e (by show ¬ w2.heap.size<w.heap.size;omega)) _).setCell (p:=⟨w2.heap.size,1,none⟩) (fun e=>absurd e (by show ¬ w2.heap.size<w.heap.size;omega)) _
 have HM24:Mod zAb w2 w4:=by
  rw [hw4,hw3]
  exact ((((Mod.refl zAb w2).drew).alloc _).setCell (p:=⟨w2.heap.size,0,none⟩) (fun e=>absurd e (Nat.lt_irrefl _)) _).setCell (p:=⟨w2.heap.size,1,none⟩) (fun e=>absurd e (Nat.lt_irrefl _)) _
 have HC4:Hid (w4.cell? ⟨ss,1,none⟩=some (.map (some mb))/\w4.cell? ⟨A,0,none⟩=some (.string x0)/\OrdP w4 ss mb):=⟨(HB.out.mod HM4 id).cell 1 rfl,HM24.cell (HCL.out 0 x0 HH0.out) id,HMP.out.mod HM4 id⟩
 refine zRm 99 12 rfl rfl (by kernel_rfl) (by rfl) (w':=w4) (by rw [hw4];rcases HFV.out with e | ⟨f',e⟩ <;> rw [e] <;> go_simp) HC4.out ?_
 refine zAc 99 13 7 (.bool ok) rfl rfl (by kernel_rfl) (by kernel_rfl) (by kernel_rfl) (by kernel_rfl) (fun c a w h=>nomatch h.1) HC4.out ⟨by rfl,fun wq hq=>by obtain ⟨q0,q1,q2⟩:=hq;go_simp⟩ ?_
 refine ⟨by kernel_rfl,rfl,?_⟩
 have hfin:∀ B:Act,B=⟨#[.pointer (some ⟨ss,0,none⟩),.string line,undef,undef,.pointer (some ⟨w.heap.size,0,none⟩),.slice (some ⟨A,0,none⟩) ws.length ws.length,.pointer (some ⟨w2.heap.size,0,none⟩),.bool ok,.func (.func 31) #[] #[.pointer (some ⟨w.heap.size,0,none⟩)],.string line,.slice (some ⟨A,0,none⟩) ws.length ws.length,.slice (some ⟨A,0,none⟩) ws.length ws.length,.int .i64 ws.length,.bool false,.tuple #[.agg #[.int .i64 k,fv],.bool ok],.pointer (some ⟨ss,0,none⟩),.pointer (some ⟨ss,0,none⟩),.pointer (some ⟨ss,1,none⟩),.map (some mb),.slice (some ⟨A,0,none⟩) ws.length ws.length,.pointer (some ⟨A,0,none⟩),.string x0,.tuple #[.agg #[.int .i64 k,fv],.bool ok],.agg #[.int .i64 k,fv],.bool ok,undef,undef,undef,undef,undef,undef,undef,undef,undef,undef,undef,undef,undef,undef,undef],[{ target:=.fn (.func 31) #[.pointer (some ⟨w.heap.size,0,none⟩)],args:=#[] }]⟩->Q1 .normal B w4:=fun B hB=>by
  subst hB
  have hQ1:=HQ1.out
  subst hQ1
  have y1:=hb4.cell 0 rfl
  have HB4:=Hmq (HB2.out.mod HM24 id)
  have HVD4:=Hmq (HVD.out.quiet HM4)
  have HF:Hid (∀ w6,Mod zAb w4 w6->Mod zAb w (w6.setCell ⟨w.heap.size,0,none⟩ (.string (zGy 3)))):=fun w6 hm6=>(HM4.trans hm6).setCell (fun e=>(Nat.lt_irrefl _ e).elim) _
  dsimp only
  clear t0 t5 hsz HFR HC HC3 HC4 z1 z2 z3 z4 hb3 hw3 hw4 HW HMP HB hmf hws hb4
  cases ok with
  | false=>
   go_wp2_with fail
   refine leaves_cons (f:=31) (args:=#[.pointer (some ⟨w.heap.size,0,none⟩)]) (by simp) (by simp [go_sem]) ?_
   refine (zLu w.heap.size (.string ⟨#[]⟩) 3 (by unfold zBc;omega) [] w4 HVD4.out HB4.out).mono ?_
   rintro e u' w'' ⟨rfl,rfl,w6,hm6,rfl⟩
   have z8:=((HB4.out.mod hm6 id).set 0 (.string (zGy 3))).cell 0 rfl
   simp [Leaves,settle,results,Tryz.results7,go_sem,z8]
   exact HF.out w6 hm6
  | true=>
   have hne:((ws.length:Int) - 1 != k)=true:=by
    rcases hbad with q | q
    ·cases q
    ·simpa using q
   go_wp2_with fail
   refine leaves_cons (f:=31) (args:=#[.pointer (some ⟨w.heap.size,0,none⟩)]) (by simp) (by simp [go_sem]) ?_
   refine (zLu w.heap.size (.string ⟨#[]⟩) 3 (by unfold zBc;omega) [] w4 HVD4.out HB4.out).mono ?_
   rintro e u' w'' ⟨rfl,rfl,w6,hm6,rfl⟩
   have z8:=((HB4.out.mod hm6 id).set 0 (.string (zGy 3))).cell 0 rfl
   simp [Leaves,settle,results,Tryz.results7,go_sem,z8]
   exact HF.out w6 hm6
 exact hfin _ (by rw [HFR.out];kernel_rfl)
end Go.Proofs.YtogaigioeohjaaaGreatDoor
namespace Go.Proofs.YtogaigioeohjaaaGreatDoor
open Go.RowKit Go.Lib Go.Maps
def SesQ(ss mb m:Nat)(w:World)(y:HLay)(s':zAa)(w':World):Prop:=
 ∃ n' c' g' y',SesP w' ss mb n' c' g' y' s'/\SesI m c' s'/\Mod (ses ss y) w w'/\∀ k,k<w.heap.size->y.own k=.no->y'.own k=.no
section
variable {w w':World} {ss mb m n c g:Nat} {y y':HLay} {s s':zAa}
theorem SesP.nobody(h:SesP w ss mb n c g y s){k:Nat}(hk:w.heap.size<=k):y.own k=.no:=by
 cases e:y.own k with
 | no=>rfl
 | _=>exact absurd (h.house.own.lt k (by rw [e];simp)).2 (by omega)
theorem SesP.side(h:SesP w ss mb n c g y s){b j:Nat}{cs:List Value}{t:TypeId}(hb:Blk w b cs t)(ht:t≠65)(hno:y.own b=.no)(hs:b≠ss)(hmb:b≠mb)(h7:7<=b)(v:Value):SesP (w.setCell ⟨b,j,none⟩ v) ss mb n c g y s:=by
 have hm:Mod (zAd b) w (w.setCell ⟨b,j,none⟩ v):=Mod.setBlk b j _
 refine ⟨h.blk.mod hm (fun e=>hs e.symm),h.map.mod hm (fun e=>hmb e.symm),h.house.beside hm (fun k hk e=>?_) (fun k hk e=>?_),h.nos,h.nom,h.n7,h.lo,h.vd.mod hm (fun k hk e=>?_)⟩
 ·rw [e];exact yPv hb ht (by show n<=b;rw [h.n7];exact h7)
 ·rw [e];exact hno
 ·have e':k=b:=e
  omega
def zCg(e:Int):Prop:=0<=e/\e<=20
theorem zCg.in{e:Int}(h:zCg e):zBc e:=by unfold zCg at h;unfold zBc;omega
theorem zPm(s:zAa)(id:Int):zCg (zHx s id):=by unfold zHx zCg;split <;> (try split) <;> omega
theorem zWh(s:zAa)(id:Int)(key:ByteArray):zCg (zIa s id key):=by
 unfold zIa
 split
 ·exact zPm s id
 ·unfold zCg;split <;> (try split) <;> omega
theorem zVj(s:zAa)(id:Int)(key:ByteArray)(mode:Int):zCg (zBw s id key mode).2:=by
 unfold zBw zCg
 simp only
 split
 ·simp
 split
 ·simp
 ·simp only;split <;> omega
theorem zZw(s:zAa)(id:Int)(p:zAz):zCg (putH s id p).2:=by
 unfold putH
 split
 ·simp [zCg]
 split
 ·exact zWh _ _ _
 split
 ·simp [zCg]
 ·simp only
  split
  ·exact zVj _ _ _ _
  ·simp [zCg]
theorem yMm(s:zAa)(id:Int)(key:ByteArray):zCg (getH s id key).2.2.2:=by
 unfold getH
 split
 ·exact zWh _ _ _
 ·simp only
  split
  ·exact zVj _ _ _ _
  ·simp [zCg]
theorem zDj{s:zAa}{x:ByteArray}{f:Int->DoR}(h:∀ v,zCg (f v).2.1):zCg (zCd s x f).2.1:=by
 unfold zCd
 split
 ·exact h _
 ·simp [zCg]
theorem zFa:zCg 0:=by simp [zCg]
theorem zCp{c:Prop}[Decidable c]{a b:DoR}(ha:zCg a.2.1)(hb:zCg b.2.1):zCg (if c then a else b).2.1:=by split <;> assumption
theorem zZp(f:Nat)(s:zAa)(ws:List ByteArray):zCg (runD f s ws).2.1:=by
 have hopen:∀ v,zCg (zEy s v).2:=fun v=>by unfold zEy;split;exact zPm _ _;exact zFa
 have hend:∀ v,zCg (endH s v).2:=fun v=>by
  unfold endH
  split
  ·exact zPm _ _
  split
  ·simp [zCg]
  ·exact zFa
 have hfail:∀ v,zCg (zEo s v).2:=fun v=>by unfold zEo;split <;> simp [zCg]
 have hlose:∀ v,zCg (zEn s v).2:=fun v=>by unfold zEn;split <;> simp [zCg]
 have htwice:∀ v,zCg (zCe s v).2:=fun v=>by
  unfold zCe
  split
  ·split <;> simp [zCg]
  ·simp [zCg]
 have hdel:∀ v,zCg (zEl s v).2:=fun v=>by unfold zEl;split <;> simp [zCg]
 have hnew:∀ v u,zCg (newD s v u).2:=fun v u=>by unfold newD;split <;> simp [zCg]
 unfold runD
 refine zCp zFa ?_
 refine zCp (by unfold begD;split <;> simp [zCg]) ?_
 refine zCp zFa ?_
 refine zCp (zDj (fun v=>zZw _ _ _)) ?_
 refine zCp (zDj hdel) ?_
 refine zCp (zDj hopen) ?_
 refine zCp (zDj hend) ?_
 refine zCp (zDj hfail) ?_
 refine zCp zFa ?_
 refine zCp (zDj (fun v=>yMm _ _ _)) ?_
 refine zCp zFa ?_
 refine zCp (zDj hlose) ?_
 refine zCp (zDj (fun v=>zDj (hnew v))) ?_
 refine zCp (zDj (fun v=>zZw _ _ _)) ?_
 refine zCp zFa ?_
 refine zCp (zDj (fun v=>zFa)) ?_
 refine zCp zFa ?_
 exact zDj htwice
end
noncomputable def zOs(line:ByteArray):Nat:=if zBr line=[] then 0 else if (zPl (wAt (zBr line) 0)).isNone then 0 else 1
theorem yOs{ws:List ByteArray}{x:ByteArray}{r:List ByteArray}(h:ws=x :: r):wAt ws 0=x/\ws[0]?=some x:=by subst h;exact ⟨rfl,rfl⟩
theorem zNs(p:Nat->Bool)(s:ByteArray):∀ (f pos:Nat) (st:Option Nat) (acc:List (Nat × Nat)),(Lib.spansFromP p s f pos st acc).1.length<=acc.length+f
 | 0,_,_,_=>by simp [Lib.spansFromP]
 | f+1,pos,st,acc=>by
  unfold Lib.spansFromP
  split
  ·split
   ·cases st with
    | none=>exact Nat.le_trans (zNs p s f _ _ _) (by omega)
    | some a=>exact Nat.le_trans (zNs p s f _ _ _) (by simp;omega)
   ·cases st with
    | none=>exact Nat.le_trans (zNs p s f _ _ _) (by omega)
    | some a=>exact Nat.le_trans (zNs p s f _ _ _) (by omega)
  ·simp
theorem yKb(line:ByteArray):(zBr line).length<=line.size+1:=by
 unfold zBr Lib.goFieldsP Lib.spansOfP
 rw [List.length_map]
 have h:=zNs (fun x=>x == 32) line line.size 0 none []
 unfold Lib.closeSpans
 simp only [List.length_nil,Nat.zero_add] at h
 split <;> simp <;> omega
theorem zRn{line x:ByteArray}{i:Nat}(h:(zBr line)[i]?=some x):x.size<=line.size:=by
 have hm:=List.mem_of_getElem? h
 unfold zBr Lib.goFieldsP at hm
 obtain ⟨q,_,rfl⟩:=List.mem_map.1 hm
 rw [ByteArray.size_extract]
 omega
end Go.Proofs.YtogaigioeohjaaaGreatDoor
namespace Go.Proofs.YtogaigioeohjaaaGreatDoor
open Go.RowKit Go.Lib Go.Maps
def AnsQ(ss mb m:Nat)(w:World)(y:HLay)(s:zAa)(line:ByteArray)(e:Ending)(w':World):Prop:=e=.returned (.string (zDp s line).2)/\SesQ ss mb (m+zOs line) w y (zDp s line).1 w'
theorem yJn{w:World}{ss mb m n c g:Nat}{y:HLay}{s:zAa}(h:SesP w ss mb n c g y s)(hi:SesI m c s)(hm:m<=900)(hne:ss≠mb)(line:ByteArray)(hl:line.size<=100000) :
  Calls Tryz.prog 7 #[.pointer (some ⟨ss,0,none⟩),.string line] w (AnsQ ss mb m w y s line):=by
 have still:∀ w',Mod zAb w w'->SesQ ss mb m w y s w':=fun w' hm'=>⟨n,c,g,y,h.quiet hm',hi,hm'.mono (fun _ _ e=>e.elim),fun _ _ e=>e⟩
 have hfew:=yKb line
 have hshort:∀ (i:Nat) x,(zBr line)[i]?=some x->x.size<=1000000:=fun i x hx=>by have:=zRn hx;omega
 cases hws:zBr line with
 | nil=>
  refine (yCg line (by omega) hws).mono ?_
  rintro e w' ⟨rfl,hm'⟩
  have e1:zDp s line=(s,⟨#[111,107]⟩):=by unfold zDp;rw [if_pos hws]
  have e2:zOs line=0:=by unfold zOs;rw [if_pos hws]
  unfold AnsQ
  rw [e1,e2]
  exact ⟨rfl,still w' hm'⟩
 | cons x0 r=>
  obtain ⟨hw0,h0⟩:=yOs hws
  have hn:zBr line≠[]:=by rw [hws];simp
  have hx0:=hshort 0 x0 h0
  cases ho:zPl x0 with
  | none=>
   refine (zWn line (by omega) (zBr line) (by omega) rfl x0 h0 h.blk h.map h.vd 0 .nilFunc false (fun wq hq=>by have:=hq.look x0 hx0;rw [ho] at this;exact this) (.inl rfl) (.inl rfl)).mono ?_
   rintro e w' ⟨rfl,hm'⟩
   have e1:zDp s line=(s,zGy 3):=by unfold zDp;rw [if_neg hn,hw0,ho]
   have e2:zOs line=0:=by unfold zOs;rw [if_neg hn,hw0,ho];rfl
   unfold AnsQ
   rw [e1,e2]
   exact ⟨rfl,still w' hm'⟩
  | some fk=>
   obtain ⟨f,k⟩:=fk
   have e2:zOs line=1:=by unfold zOs;rw [if_neg hn,hw0,ho];rfl
   by_cases hk:((zBr line).length:Int) - 1=k
   ·have e1:zDp s line=((runD f s (zBr line)).1,ySl (runD f s (zBr line))):=by unfold zDp;rw [if_neg hn,hw0,ho];simp only;rw [if_pos hk]
    have hlt:=h.blk.lt
    have hltm:=World.ownsMap.lt h.map
    have hb0:y.own w.heap.size=.no:=h.nobody (Nat.le_refl _)
    refine (yCf line (by omega) (zBr line) (by omega) rfl x0 h0 hx0 h.blk h.map ho hk (runD f s (zBr line)).2.1 (runD f s (zBr line)).2.2 (zZp f s _).in (Z:=fun A w1 w2=>SesR ss mb m w1 y (runD f s (zBr line)).1 w2) ?_ ?_).mono ?_
    ·intro A w1 w2 hz hm1
     refine ⟨hz.vd,fun old hb=>?_⟩
     obtain ⟨n',c',g',y',_,_,hmd,_⟩:=hz
     exact hb.mod hmd (fun e=>e.elim (fun e=>by omega) (fun e=>e hb0))
    ·intro A w1 hm1 hA hA1 hc
     have hP:=do_any (zBr line) (h.quiet hm1) hi hm hne (h.nobody (Nat.le_of_lt hA)) (by omega) hshort hc (f:=f) (k:=k) (by rw [hw0];exact ho) hk
     exact hP
    ·rintro e w' ⟨rfl,A,w1,w2,w3,v,hm1,hb1,⟨n',c',g',y',hP,hI,hmd,hold⟩,hm3,rfl⟩
     unfold AnsQ
     rw [e1,e2]
     refine ⟨rfl,?_⟩
     have hb2:Blk w2 w.heap.size [.string ⟨#[]⟩] 9:=hb1.mod hmd (fun e=>e.elim (fun e=>by omega) (fun e=>e hb0))
     have hb3:=hb2.mod hm3 id
     have hno:y'.own w.heap.size=.no:=hold _ hb1.lt hb0
     refine ⟨n',c',g',y',(hP.quiet hm3).side hb3 (by decide) hno (by omega) (by omega) h.vd.sz v,hI,?_,fun i hik e=>hold i (Nat.lt_of_lt_of_le hik hm1.size) e⟩
     have hA:Mod (ses ss y) w w3:=(hm1.mono (fun _ _ e=>e.elim)).trans' (hmd.trans' (G':=zAb) hm3 (fun _ _ e=>e.elim)) (fun k _ e=>e)
     exact hA.setCell (fun e=>(Nat.lt_irrefl _ e).elim) v
   ·have e1:zDp s line=(s,zGy 3):=by unfold zDp;rw [if_neg hn,hw0,ho];simp only;rw [if_neg hk]
    refine (zWn line (by omega) (zBr line) (by omega) rfl x0 h0 h.blk h.map h.vd k (.func (.func f) #[.pointer (some ⟨ss,0,none⟩)] #[]) true (fun wq hq=>by have:=hq.look x0 hx0;rw [ho] at this;exact this) (.inr ⟨f,rfl⟩) (.inr hk)).mono ?_
    rintro e w' ⟨rfl,hm'⟩
    unfold AnsQ
    rw [e1,e2]
    exact ⟨rfl,n,c,g,y,h.quiet hm',hi.same,hm'.mono (fun _ _ e=>e.elim),fun _ _ e=>e⟩
end Go.Proofs.YtogaigioeohjaaaGreatDoor
