import Derived.Test.YtiblcbdkiecbgaaGreatDoorM25
import Derived.Defers
set_option linter.unusedVariables false
set_option maxRecDepth 100000
set_option maxHeartbeats 16000000
namespace Go.Proofs.YtiblcbdkiecbgaaGreatDoor
open Go.RowKit Go.Lib Go.Maps
set_option maxHeartbeats 16000000
section
variable {P:Program} {md:Region.Mode} {ops:Array Oper} {C:World->Prop} {Q:Exit->Act->World->Prop}
theorem wpAnyC_skip(last i:Nat){oi:Oper}{fuel:Nat}{listed:Array Bool}{a:Act}{w:World}(hi:ops[i]?=some oi)(hd:oi.dst=none)(hr:Region.ready md ops listed=[i])
  (hw:Region.wanted oi (yielded ops a.tmps)=true) {w':World} (hrun:(execOp a.eval oi).run P w=.ok .skip w') (hC:C w')
  (h:wpAnyC P md ops last C Q fuel (listed.setIfInBounds i true) a w'):wpAnyC P md ops last C Q (fuel+1) listed a w:=by
 refine ⟨fun h0=>(by rw [hr] at h0;cases h0),fun j hj=>?_⟩
 rw [hr] at hj
 simp only [List.mem_singleton] at hj
 subst hj
 unfold wpOp
 simp only [hi,hw,if_true,Oper.wp,hrun,Oper.upon,hd]
 exact .inl ⟨.inr hC,h⟩
end
theorem catch_idle(p:Addr)(w:World) :
  CallsD Tryz.prog 59 #[.pointer (some p)] .returning w fun e u' w'=>e=.returned (.tuple #[])/\u'=.returning/\w'=w:=by
 refine callsD_of_wpS Tryz.func59 rfl fun c₀ cs hu=>?_
 rw [show (#[Value.pointer (some p)]++Array.replicate (Tryz.f59.ntmps - #[Value.pointer (some p)].size) undef:Array Value)=#[.pointer (some p),undef,undef,undef,undef,undef,undef,undef,undef,undef,undef,undef,undef,undef,undef,undef,undef] from rfl]
 apply wpS_seq
 apply wpS_region
 simp [wpOpsS,go_sem,recoverD,hu,Exit.thenS]
 refine wpS_of_wp ?_
 go_wp2_with fail
 cases c₀
 simp_all [bodyPostS,results,Tryz.results59]
theorem makeF:∀ (fn:Fn) (first cap:Array Value) (w:World),(Instr.makeFunc fn first cap).run Tryz.prog w=.ok (.func fn first cap) w:=fun _ _ _ _=>rfl
theorem answer_blank{ss:Nat}{w:World}(line:ByteArray)(hl:line.size<=1000000)(hw:wordsD line=[]) :
  Calls Tryz.prog 16 #[.pointer (some ⟨ss,0,none⟩),.string line] w fun e w'=>e=.returned (.string ⟨#[111,107]⟩)/\Mod noBlock w w':=by
 have hmf:=makeF
 have HW:=Hmq (words_any line hl (w.alloc (.cells #[.string ⟨#[]⟩] 9)))
 rw [hw] at HW
 have hb0:Blk (w.alloc (.cells #[.string ⟨#[]⟩] 9)) w.heap.size [.string ⟨#[]⟩] 9:=Blk.new w [.string ⟨#[]⟩] _
 go_enter_defers Tryz.func16,Tryz.ntmps16
 go_wp2_with (first
  | (go_at_call 60;refine HW.out.mono ?_;rintro e w2 ⟨A,rfl,hA,ho,hm2⟩;(have z1:=(hb0.mod hm2 id).cell 0 rfl);(have z2:=(hb0.mod hm2 id).frozen 0);simp only [List.length_nil])
  | fail)
 have hb2:Blk (w2.setCell ⟨w.heap.size,0,none⟩ (.string ⟨#[111,107]⟩)) w.heap.size [.string ⟨#[111,107]⟩] 9:=(hb0.mod hm2 id).set 0 _
 have z3:=hb2.cell 0 rfl
 have HM:Hid (Mod noBlock w (w2.setCell ⟨w.heap.size,0,none⟩ (.string ⟨#[111,107]⟩))):=(((Mod.refl noBlock w).alloc _).trans hm2).setCell (fun e=>(Nat.lt_irrefl _ e).elim) _
 refine leaves_cons (f:=59) (args:=#[.pointer (some ⟨w.heap.size,0,none⟩)]) (by simp) (by simp [go_sem]) ?_
 refine (catch_idle ⟨w.heap.size,0,none⟩ _).mono ?_
 rintro e u' w'' ⟨rfl,rfl,rfl⟩
 simp [Leaves,settle,results,Tryz.results16,go_sem,z3]
 exact HM.out
theorem rowW{w:World}{B A:Nat}{ws:List ByteArray}(hp:0<ws.length)(hrow:w.ownsRow B 9 1 (.slice (some ⟨A,0,none⟩) ws.length ws.length) ws.length (ws.map Value.string)) :
  A<w.heap.size/\∀ (i:Nat) x,ws[i]?=some x->w.cell? ⟨A,i,none⟩=some (.string x):=by
 have hcl:=hrow.cells (g:=A) rfl
 have hall:∀ (i:Nat) x,ws[i]?=some x->w.cell? ⟨A,i,none⟩=some (.string x):=fun i x hi=>by
  have:=hcl i (.string x) (by rw [List.getElem?_map,hi];rfl)
  rw [Go.WideShapes.add_plain,Nat.zero_add] at this
  exact this
 refine ⟨?_,hall⟩
 have:=World.block_lt_of_cell? w _ (hall 0 _ (List.getElem?_eq_getElem hp))
 exact this
theorem ordOf_mem{k:ByteArray}{x:Nat × Int}(h:ordOf k=some x):∃ b,(b,x)∈ordR/\b=k.data.toList:=by
 unfold ordOf at h
 cases e:ordR.find? (fun x=>x.1 == k.data.toList) with
 | none=>rw [e] at h;cases h
 | some q=>
  rw [e] at h
  simp at h
  have h1:=List.mem_of_find?_eq_some e
  have h2:=List.find?_some e
  refine ⟨q.1,by rw [<-h];exact h1,by simpa using h2⟩
theorem ord_enters{k:ByteArray}{f:Nat}{n:Int}(ho:ordOf k=some (f,n)):∀ args w,(callFunc f args).run Tryz.prog w=.ok (.enter f args) w:=by
 obtain ⟨b,hb,-⟩:=ordOf_mem ho
 simp only [ordR,List.mem_cons,Prod.mk.injEq,List.not_mem_nil,or_false] at hb
 rcases hb with ⟨-,rfl,rfl⟩ | ⟨-,rfl,rfl⟩ | ⟨-,rfl,rfl⟩ | ⟨-,rfl,rfl⟩ | ⟨-,rfl,rfl⟩ | ⟨-,rfl,rfl⟩ | ⟨-,rfl,rfl⟩ | ⟨-,rfl,rfl⟩ | ⟨-,rfl,rfl⟩ | ⟨-,rfl,rfl⟩ | ⟨-,rfl,rfl⟩ | ⟨-,rfl,rfl⟩ | ⟨-,rfl,rfl⟩ | ⟨-,rfl,rfl⟩ | ⟨-,rfl,rfl⟩ | ⟨-,rfl,rfl⟩ | ⟨-,rfl,rfl⟩ | ⟨-,rfl,rfl⟩
 all_goals exact fun _ _=>rfl
def AnsP(w:World)(Z:Nat->World->World->Prop)(t:ByteArray)(e:Ending)(w':World):Prop:=e=.returned (.string t)/\∃ A w1 w2 v,Mod noBlock w w1/\Blk w1 w.heap.size [.string ⟨#[]⟩] 9/\Z A w1 w2/\w'=w2.setCell ⟨w.heap.size,0,none⟩ v
theorem answer_do{ss mb:Nat}{w:World}{hv:Value}(line:ByteArray)(hl:line.size<=1000000)(ws:List ByteArray)(hwl:ws.length<=1000000)(hws:wordsD line=ws)(x0:ByteArray)(h0:ws[0]?=some x0)(hx0:x0.size<=1000000)(hb:Blk w ss [hv,.map (some mb)] 86)(hmap:OrdP w ss mb)
  {f:Nat} {k:Int} (ho:ordOf x0=some (f,k)) (hk:(ws.length:Int) - 1=k) (t:ByteArray) {Z:Nat->World->World->Prop}
  (hZ:∀ A w1 w2,Z A w1 w2->Mod noBlock w w1->∀ old,Blk w1 w.heap.size [old] 9->Blk w2 w.heap.size [old] 9)
  (HDO:∀ A w1,Mod noBlock w w1->w.heap.size<A->A<w1.heap.size->(∀ (i:Nat) x,ws[i]?=some x->w1.cell? ⟨A,i,none⟩=some (.string x))->Calls Tryz.prog f #[.pointer (some ⟨ss,0,none⟩),.slice (some ⟨A,0,none⟩) ws.length ws.length] w1 fun e w'=>e=.returned (.string t)/\Z A w1 w') :
  Calls Tryz.prog 16 #[.pointer (some ⟨ss,0,none⟩),.string line] w (AnsP w Z t):=by
 have hmf:=makeF
 have hen:=ord_enters ho
 have HEN:=Hmq hen
 have HW:=Hmq (words_any line hl (w.alloc (.cells #[.string ⟨#[]⟩] 9)))
 rw [hws] at HW
 have hb0:Blk (w.alloc (.cells #[.string ⟨#[]⟩] 9)) w.heap.size [.string ⟨#[]⟩] 9:=Blk.new w [.string ⟨#[]⟩] _
 have HB0:=Hmq hb0
 have HB:=Hmq hb
 have HMP:=Hmq hmap
 have HDD:=Hmq HDO
 have HZZ:=Hmq hZ
 have hlen:¬ ws.length=0:=by intro e;rw [List.length_eq_zero_iff.1 e] at h0;cases h0
 have hlp:0<ws.length:=by omega
 have hle:((ws.length:Int) == 0)=false:=beq_eq_false_iff_ne.2 (by omega)
 have HH0:=Hmq h0
 have HHK:=Hmq hk
 clear hb0 hb hmap HDO hZ h0 hk hen
 go_enter_defers Tryz.func16,Tryz.ntmps16
 go_upto_region 5 with (first
  | (go_at_call 60;refine HW.out.mono ?_;rintro e w2 ⟨A,rfl,hA,hrow,hm2⟩)
  | fail)
 have HM2:Mod noBlock w w2:=((Mod.refl noBlock w).alloc _).trans hm2
 obtain ⟨hAl,hcl⟩:=rowW hlp hrow
 have hA1:w.heap.size<A:=by have:=hA;simp only [World.size_alloc] at this;omega
 have HB2:=Hmq (HB0.out.mod hm2 id)
 have HCL:=Hmq hcl
 have HC:Hid (w2.drew.cell? ⟨ss,1,none⟩=some (.map (some mb))/\w2.drew.cell? ⟨A,0,none⟩=some (.string x0)/\OrdP w2.drew ss mb):=⟨(HB.out.mod HM2 id).cell 1 rfl,hcl 0 x0 HH0.out,HMP.out.mod (HM2.drew) id⟩
 clear hcl hrow hA
 refine wp_with fun fr hfr=>?_
 refine wp_withQ fun Q1 hQ1=>?_
 have HQ1:=Hmq hQ1
 clear hQ1
 refine wp_mono (Q:=fun e a w=>e=.normal/\Q1 .normal a w) ?_ (fun e a w h=>by rw [h.1];exact h.2)
 have hsz:fr.tmps.size=40:=by rw [hfr];rfl
 obtain ⟨_,t0⟩:∃ h:0<fr.tmps.size,fr.tmps[0]=.pointer (some ⟨ss,0,none⟩):=Array.getElem?_eq_some_iff.1 (by rw [hfr];rfl)
 obtain ⟨_,t5⟩:∃ h:5<fr.tmps.size,fr.tmps[5]=.slice (some ⟨A,0,none⟩) ws.length ws.length:=Array.getElem?_eq_some_iff.1 (by rw [hfr];rfl)
 have HFR:=Hmq hfr
 clear hfr
 refine wp_region_C 99 (fun wq=>wq.cell? ⟨ss,1,none⟩=some (.map (some mb))/\wq.cell? ⟨A,0,none⟩=some (.string x0)/\OrdP wq ss mb) rfl ?_
 refine wpAnyC_takeD 99 0 15 (.pointer (some ⟨ss,0,none⟩)) rfl rfl (by kernel_rfl) (by kernel_rfl) (by kernel_rfl) (by kernel_rfl) (fun c a w h=>nomatch h.1) HC.out ⟨by rfl,fun wq hq=>by obtain ⟨q0,q1,q2⟩:=hq;go_simp⟩ ?_
 refine wpAnyC_takeD 99 1 16 (.pointer (some ⟨ss,0,none⟩)) rfl rfl (by kernel_rfl) (by kernel_rfl) (by kernel_rfl) (by kernel_rfl) (fun c a w h=>nomatch h.1) HC.out ⟨by rfl,fun wq hq=>by obtain ⟨q0,q1,q2⟩:=hq;go_simp⟩ ?_
 refine wpAnyC_takeD 99 2 17 (.pointer (some ⟨ss,1,none⟩)) rfl rfl (by kernel_rfl) (by kernel_rfl) (by kernel_rfl) (by kernel_rfl) (fun c a w h=>nomatch h.1) HC.out ⟨by rfl,fun wq hq=>by obtain ⟨q0,q1,q2⟩:=hq;go_simp⟩ ?_
 refine wpAnyC_takeD 99 3 18 (.map (some mb)) rfl rfl (by kernel_rfl) (by kernel_rfl) (by kernel_rfl) (by kernel_rfl) (fun c a w h=>nomatch h.1) HC.out ⟨by rfl,fun wq hq=>by obtain ⟨q0,q1,q2⟩:=hq;go_simp⟩ ?_
 refine wpAnyC_takeD 99 4 19 (.slice (some ⟨A,0,none⟩) ws.length ws.length) rfl rfl (by kernel_rfl) (by kernel_rfl) (by kernel_rfl) (by kernel_rfl) (fun c a w h=>nomatch h.1) HC.out ⟨by rfl,fun wq hq=>by obtain ⟨q0,q1,q2⟩:=hq;go_simp⟩ ?_
 refine wpAnyC_takeD 99 5 20 (.pointer (some ⟨A,0,none⟩)) rfl rfl (by kernel_rfl) (by kernel_rfl) (by kernel_rfl) (by kernel_rfl) (fun c a w h=>nomatch h.1) HC.out ⟨by rfl,fun wq hq=>by obtain ⟨q0,q1,q2⟩:=hq;go_simp⟩ ?_
 refine wpAnyC_takeD 99 6 21 (.string x0) rfl rfl (by kernel_rfl) (by kernel_rfl) (by kernel_rfl) (by kernel_rfl) (fun c a w h=>nomatch h.1) HC.out ⟨by rfl,fun wq hq=>by obtain ⟨q0,q1,q2⟩:=hq;go_simp⟩ ?_
 refine wpAnyC_takeD 99 7 22 (.tuple #[ordV ss (some (f,k)),.bool true]) rfl rfl (by kernel_rfl) (by kernel_rfl) (by kernel_rfl) (by kernel_rfl) (fun c a w h=>nomatch h.1) HC.out ⟨by rfl,fun wq hq=>by obtain ⟨q0,q1,q2⟩:=hq;have q3:=q2.look x0 hx0;rw [ho] at q3;simp only [Option.isSome_some] at q3;go_simp⟩ ?_
 refine wpAnyC_takeD 99 8 14 (.tuple #[ordV ss (some (f,k)),.bool true]) rfl rfl (by kernel_rfl) (by kernel_rfl) (by kernel_rfl) (by kernel_rfl) (fun c a w h=>nomatch h.1) HC.out ⟨by rfl,fun wq hq=>by obtain ⟨q0,q1,q2⟩:=hq;go_simp⟩ ?_
 refine wpAnyC_takeD 99 9 23 (ordV ss (some (f,k))) rfl rfl (by kernel_rfl) (by kernel_rfl) (by kernel_rfl) (by kernel_rfl) (fun c a w h=>nomatch h.1) HC.out ⟨by rfl,fun wq hq=>by obtain ⟨q0,q1,q2⟩:=hq;go_simp⟩ ?_
 refine wpAnyC_takeD 99 10 24 (.bool true) rfl rfl (by kernel_rfl) (by kernel_rfl) (by kernel_rfl) (by kernel_rfl) (fun c a w h=>nomatch h.1) HC.out ⟨by rfl,fun wq hq=>by obtain ⟨q0,q1,q2⟩:=hq;go_simp⟩ ?_
 obtain ⟨w3,hw3⟩:∃ q,q=w2.drew.alloc (.cells #[.int .i64 0,.nilFunc] 89):=⟨_,rfl⟩
 have HM3:Mod noBlock w w3:=by rw [hw3];exact (HM2.drew).alloc _
 have hb3:Blk w3 w2.heap.size [.int .i64 0,.nilFunc] 89:=by rw [hw3];exact Blk.new w2.drew _ _
 have HC3:Hid (w3.cell? ⟨ss,1,none⟩=some (.map (some mb))/\w3.cell? ⟨A,0,none⟩=some (.string x0)/\OrdP w3 ss mb):=by
  rw [hw3];exact ⟨((Mod.refl noBlock w2.drew).alloc _).cell HC.out.1 id,((Mod.refl noBlock w2.drew).alloc _).cell HC.out.2.1 id,HC.out.2.2.mod ((Mod.refl noBlock w2.drew).alloc _) id⟩
 refine wpAnyC_nextD 99 11 6 rfl rfl (by kernel_rfl) (by rfl) (v:=.pointer (some ⟨w2.heap.size,0,none⟩)) (w':=w3) (by rw [hw3];go_simp) HC3.out ?_
 have z1:=hb3.cell 0 rfl
 have z2:=hb3.cell 1 rfl
 have z3:=hb3.frozen 0
 have z4:=hb3.frozen 1
 obtain ⟨w4,hw4⟩:∃ q,q=(w3.setCell ⟨w2.heap.size,0,none⟩ (.int .i64 k)).setCell ⟨w2.heap.size,1,none⟩ (.func (.func f) #[.pointer (some ⟨ss,0,none⟩)] #[]):=⟨_,rfl⟩
 have hb4:Blk w4 w2.heap.size [.int .i64 k,.func (.func f) #[.pointer (some ⟨ss,0,none⟩)] #[]] 89:=by rw [hw4];exact (hb3.set 0 _).set 1 _
 have HM4:Mod noBlock w w4:=by
  rw [hw4]
  have hlt:w.heap.size<=w2.heap.size:=HM2.size
  exact (HM3.setCell (p:=⟨w2.heap.size,0,none⟩) (fun e=>absurd e (by show ¬ w2.heap.size<w.heap.size;omega)) _).setCell (p:=⟨w2.heap.size,1,none⟩) (fun e=>absurd e (by show ¬ w2.heap.size<w.heap.size;omega)) _
 have HM24:Mod noBlock w2 w4:=by
  rw [hw4,hw3]
  exact ((((Mod.refl noBlock w2).drew).alloc _).setCell (p:=⟨w2.heap.size,0,none⟩) (fun e=>absurd e (Nat.lt_irrefl _)) _).setCell (p:=⟨w2.heap.size,1,none⟩) (fun e=>absurd e (Nat.lt_irrefl _)) _
 have HC4:Hid (w4.cell? ⟨ss,1,none⟩=some (.map (some mb))/\w4.cell? ⟨A,0,none⟩=some (.string x0)/\OrdP w4 ss mb):=⟨(HB.out.mod HM4 id).cell 1 rfl,HM24.cell (HCL.out 0 x0 HH0.out) id,HMP.out.mod HM4 id⟩
 refine wpAnyC_skip 99 12 rfl rfl (by kernel_rfl) (by rfl) (w':=w4) (by rw [hw4];unfold ordV;go_simp) HC4.out ?_
 refine wpAnyC_takeD 99 13 7 (.bool true) rfl rfl (by kernel_rfl) (by kernel_rfl) (by kernel_rfl) (by kernel_rfl) (fun c a w h=>nomatch h.1) HC4.out ⟨by rfl,fun wq hq=>by obtain ⟨q0,q1,q2⟩:=hq;go_simp⟩ ?_
 refine ⟨by kernel_rfl,rfl,?_⟩
 have hfin:∀ B:Act,B=⟨#[.pointer (some ⟨ss,0,none⟩),.string line,undef,undef,.pointer (some ⟨w.heap.size,0,none⟩),.slice (some ⟨A,0,none⟩) ws.length ws.length,.pointer (some ⟨w2.heap.size,0,none⟩),.bool true,.func (.func 59) #[] #[.pointer (some ⟨w.heap.size,0,none⟩)],.string line,.slice (some ⟨A,0,none⟩) ws.length ws.length,.slice (some ⟨A,0,none⟩) ws.length ws.length,.int .i64 ws.length,.bool false,.tuple #[ordV ss (some (f,k)),.bool true],.pointer (some ⟨ss,0,none⟩),.pointer (some ⟨ss,0,none⟩),.pointer (some ⟨ss,1,none⟩),.map (some mb),.slice (some ⟨A,0,none⟩) ws.length ws.length,.pointer (some ⟨A,0,none⟩),.string x0,.tuple #[ordV ss (some (f,k)),.bool true],ordV ss (some (f,k)),.bool true,undef,undef,undef,undef,undef,undef,undef,undef,undef,undef,undef,undef,undef,undef,undef],[{ target:=.fn (.func 59) #[.pointer (some ⟨w.heap.size,0,none⟩)],args:=#[] }]⟩->Q1 .normal B w4:=fun B hB=>by
  subst hB
  have hQ1:=HQ1.out
  subst hQ1
  have y1:=hb4.cell 0 rfl
  have y2:=hb4.cell 1 rfl
  have hen:=HEN.out
  have hne:((ws.length:Int) - 1 != k)=false:=by rw [HHK.out];simp
  dsimp only
  have hCall:=HDD.out A w4 HM4 hA1 (Nat.lt_of_lt_of_le hAl HM24.size) (fun i x hi=>HM24.cell (HCL.out i x hi) id)
  have HB4:=Hmq (HB2.out.mod HM24 id)
  have hlt4:w.heap.size<w4.heap.size:=(HB2.out.mod HM24 id).lt
  clear t0 t5 hsz HFR HC HC3 HC4 z1 z2 z3 z4 hb3 hw3 hw4 HW HMP HB hmf hws HDD hb4
  have HCA:=Hmq hCall
  clear hCall
  go_wp2_with fail
  refine HCA.out.mono ?_
  rintro e w5 ⟨rfl,hz5⟩
  have hbz:=HZZ.out A w4 w5 hz5 HM4
  have hb5:=hbz _ HB4.out
  have z5:=hb5.cell 0 rfl
  have z6:=hb5.frozen 0
  have HB5:=Hmq hb5
  have HZ5:=Hmq hz5
  clear hbz hb5 hz5
  go_wp2_with fail
  have hb6:Blk (w5.setCell ⟨w.heap.size,0,none⟩ (.string t)) w.heap.size [.string t] 9:=HB5.out.set 0 _
  have z7:=hb6.cell 0 rfl
  have HF:Hid (AnsP w Z t (.returned (.string t)) (w5.setCell ⟨w.heap.size,0,none⟩ (.string t))):=⟨rfl,A,w4,w5,_,HM4,HB4.out,HZ5.out,rfl⟩
  refine leaves_cons (f:=59) (args:=#[.pointer (some ⟨w.heap.size,0,none⟩)]) (by simp) (by simp [go_sem]) ?_
  refine (catch_idle ⟨w.heap.size,0,none⟩ _).mono ?_
  rintro e u' w'' ⟨rfl,rfl,rfl⟩
  simp [Leaves,settle,results,Tryz.results16,go_sem,z7]
  exact HF.out
 exact hfin _ (by rw [HFR.out];kernel_rfl)
end Go.Proofs.YtiblcbdkiecbgaaGreatDoor
