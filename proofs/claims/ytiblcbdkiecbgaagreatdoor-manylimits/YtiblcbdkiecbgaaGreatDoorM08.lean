import Derived.Test.YtiblcbdkiecbgaaGreatDoorM07
import Derived.WalkSpells
import Derived.Lib.SliceRun
set_option linter.unusedVariables false
set_option maxRecDepth 100000
set_option maxHeartbeats 16000000
namespace Go.Proofs.YtiblcbdkiecbgaaGreatDoor
open Go.RowKit Go.Lib Go.Maps
theorem IntsV.quiet{w w':World}{v:Value}{ns:List Int}(h:IntsV w v ns)(hm:Mod noBlock w w'):IntsV w' v ns:=by
 obtain ⟨a,cap,h1,h2,h3,h4⟩:=h
 refine ⟨a,cap,h1,h2,h3,?_⟩
 rcases h4 with h4 | ⟨b,off,h5,h6⟩
 ·exact .inl h4
 ·exact .inr ⟨b,off,h5,fun j x hx=>hm.cell (h6 j x hx) id⟩
def dupB:List Int->List Int->Bool
 | _,[]=>false
 | seen,x :: xs=>decide (x∈seen) || dupB (seen++[x]) xs
theorem dupB_false:∀ (xs seen:List Int),dupB seen xs=false↔xs.Nodup/\∀ x∈xs,x∉seen
 | [],seen=>by simp [dupB]
 | x :: xs,seen=>by
  simp only [dupB,Bool.or_eq_false_iff,decide_eq_false_iff_not,dupB_false xs (seen++[x]),List.nodup_cons,List.mem_cons,List.mem_append]
  constructor
  ·rintro ⟨h1,h2,h3⟩
   exact ⟨⟨fun hx=>(h3 x hx) (.inr (by simp)),h2⟩,fun y hy=>by
    rcases hy with rfl | hy
    ·exact h1
    ·exact fun hs=>h3 y hy (.inl hs)⟩
  ·rintro ⟨⟨h1,h2⟩,h3⟩
   refine ⟨h3 x (.inl rfl),h2,fun y hy hs=>?_⟩
   rcases hs with hs | hs
   ·exact h3 y (.inr hy) hs
   ·simp at hs;subst hs;exact h1 hy
theorem seenPut{w':World}{L b n:Nat}{ds:List Int}{D:DataW Unit}{x:Int}(hd:∀ x,(Lit.int .i64 x).wf=true->Maps.has D (.int .i64 x)=decide (x∈ds))(hD:IsMap D)(hb:L<=b)(hn:n<=ds.length)
  (hid:int64 x) (h:w'.ownsMap Tryz.prog 3 unitElem b (n+1) (D.put (.int .i64 x) (.agg []))):DownAt w' L (some b) (ds++[x]):=by
 refine .inr ⟨b,_,rfl,hb,h.mono (by simp;omega),fun y hy=>?_⟩
 by_cases e:y=x
 ·subst e
  rw [has_put_same hD (by simp [WideAt.IsKeyLit])]
  simp
 ·rw [has_put_other (by intro h;cases h;exact e rfl),hd y hy]
  simp [e]
theorem twice1_any(L q b:Nat)(ds:List Int)(x:Int)(w:World)(hq:w.cell? ⟨q,0,none⟩=some (.map (some b)))(hd:DownAt w L (some b) ds)(hx:int64 x)(hds:ds.length<=1000000) :
  Calls Tryz.prog 275 #[.int .i64 x,.pointer (some ⟨q,0,none⟩)] w fun e w'=>e=.returned (.bool (decide (x∈ds)))/\DownAt w' L (some b) (ds++[x])/\Mod (oneBlock b) w w':=by
 have l1:=lookup_down hd hx
 have hqz:q<w.heap.size:=World.block_lt_of_cell? w _ hq
 have hd0:=hd
 rcases hd with ⟨e,_⟩ | ⟨b',D,e,hLb,hown,hhas⟩
 ·cases e
 cases e
 have hkey:keyOf Tryz.prog 3 (.int .i64 x)=some (.int .i64 x):=keyOf_int_mk Tryz.underlying3 (wf_of64 hx)
 have hm1:Mod noBlock w (w.alloc (.cells #[] 34)):=(Mod.refl _ w).alloc _
 have HO:=Hmr (World.ownsMap.alloc hown (.cells #[] 34))
 have HHA:=Hmr hhas
 have HD:Hid (IsMap D):=hown.isMap
 clear hown hhas hd0
 go_enter Tryz.func275,Tryz.ntmps275
 go_wp2_with (first
  | (at_mapUpdate;refine wpList_mapUpdate_own _ rfl _ _ _ 150 rfl 3 34 kInt Tryz.underlying150 unitElem b _ D rfl HO.out (by unfold maxLen;omega) _ _ _ rfl rfl hkey _ [] unitElem_mk ?_)
  | fail)
 intro w1 hown1 hgrow1
 have hm2:Mod (oneBlock b) (w.alloc (.cells #[] 34)) w1:=(Mod.refl _ _).grown hgrow1 (fun k hk _=>by cases hk;exact rfl)
 have HDN:=Hmr (seenPut HHA.out HD.out hLb (Nat.le_refl _) hx hown1)
 clear hown1 hgrow1 HO l1
 go_wp2_with fail
 go_ret
 exact ⟨rfl,HDN.out,(hm1.mono (fun _ _ e=>e.elim)).trans hm2⟩
theorem twiceIdx_any(L q b:Nat)(v:Value)(ns:List Int)(w:World)(hv:IntsV w v ns)(hsep:ns≠[]->∀ a n cap,v=.slice (some a) n cap->a.block≠b)(hq:w.cell? ⟨q,0,none⟩=some (.map (some b)))(hqb:q≠b)(hd:DownAt w L (some b) [])(hin:∀ x∈ns,int64 x)(hn:ns.length<=1000000) :
  Calls Tryz.prog 208 #[v,.func (.func 275) #[] #[.pointer (some ⟨q,0,none⟩)]] w fun e w'=>∃ r:Int,e=.returned (.int .i64 r)/\decide (0<=r)=dupB [] ns/\Mod (oneBlock b) w w':=by
 obtain ⟨a,cap,rfl,hc1,hc2,hcl⟩:=hv
 unfold maxLen at hc2
 have HCL:=Hmr hcl
 have HIN:=Hmr hin
 have HSP:=Hmr hsep
 clear hcl hin hsep
 go_enter Tryz.func208,Tryz.ntmps208
 go_wp2_with fail
 go_loopw [8] (fun i wr=>∃ k:Nat,k<=ns.length/\i=.int .i64 k/\dupB [] ns=dupB (ns.take k) (ns.drop k)/\DownAt wr L (some b) (ns.take k)/\Mod (oneBlock b) w wr) (fun i _=>ns.length - (intOf i).toNat)
 case atStart=>exact ⟨0,Nat.zero_le _,rfl,by simp,by simpa using hd,Mod.refl _ _⟩
 case round=>
  obtain ⟨k,hk,rfl,hdup,hdn,hM⟩:=hrel
  clear hd
  by_cases hlt:k<ns.length
  ·obtain ⟨y,hy⟩:∃ y,ns[k]?=some y:=⟨_,List.getElem?_eq_getElem hlt⟩
   rcases HCL.out with e | ⟨ab,off,rfl,hcl⟩
   ·rw [e] at hlt;simp at hlt
   have hab:ab≠b:=HSP.out (by intro e;rw [e] at hlt;simp at hlt) _ _ _ rfl
   have q0:=hM.cell (hcl k y hy) hab
   have hq1:=hM.cell hq hqb
   have hdr:ns.drop k=y :: ns.drop (k+1):=by
    rw [List.drop_eq_getElem_cons hlt]
    rw [List.getElem?_eq_getElem hlt] at hy
    simp at hy;rw [hy]
   have htk:ns.take (k+1)=ns.take k++[y]:=by
    rw [List.take_succ_eq_append_getElem hlt]
    rw [List.getElem?_eq_getElem hlt] at hy
    simp at hy;rw [hy]
   rw [hdr,dupB,<-htk] at hdup
   have HC:=twice1_any L q b (ns.take k) y wr hq1 hdn (HIN.out y (List.mem_of_getElem? hy)) (by rw [List.length_take];omega)
   rw [<-htk] at HC
   have HC':=Hmr HC
   have HDUP:=Hmr hdup
   have hltI:(k:Int)<(ns.length:Int):=by omega
   have hlt0:(0:Int)<=(k:Int):=by omega
   clear hcl hy HC hdup hdr htk hdn hq1
   go_wp2_with fail
   refine HC'.out.mono ?_
   rintro e w5 ⟨rfl,hdn5,hm5⟩
   have hM5:=hM.trans hm5
   clear HC' q0 hM
   by_cases hmem:y∈ns.take k
   ·rw [decide_eq_true hmem] at HDUP ⊢
    rw [Bool.true_or] at HDUP
    go_wp2_with fail
    go_ret
    exact ⟨k,rfl,by rw [HDUP.out];exact decide_eq_true hlt0,hM5⟩
   ·rw [decide_eq_false hmem] at HDUP ⊢
    rw [Bool.false_or] at HDUP
    go_wp2_with fail
    go_roundw
    case rel=>exact ⟨k+1,by omega,by go_num,HDUP.out,hdn5,hM5⟩
    case measure=>simp [intOf];omega
  ·obtain rfl:k=ns.length:=by omega
   rw [List.drop_length] at hdup
   have HDUP:=Hmr hdup
   clear hdup
   go_wp2_with fail
   go_ret
   exact ⟨-1,rfl,by rw [HDUP.out];rfl,hM⟩
theorem twiceHas_any(L q b:Nat)(v:Value)(ns:List Int)(w:World)(hv:IntsV w v ns)(hsep:ns≠[]->∀ a n cap,v=.slice (some a) n cap->a.block≠b)(hq:w.cell? ⟨q,0,none⟩=some (.map (some b)))(hqb:q≠b)(hd:DownAt w L (some b) [])(hin:∀ x∈ns,int64 x)(hn:ns.length<=1000000) :
  Calls Tryz.prog 155 #[v,.func (.func 275) #[] #[.pointer (some ⟨q,0,none⟩)]] w fun e w'=>e=.returned (.bool (dupB [] ns))/\Mod (oneBlock b) w w':=by
 have HI:=Hmr (twiceIdx_any L q b v ns w hv hsep hq hqb hd hin hn)
 obtain ⟨a,cap,rfl,_⟩:=hv
 clear hq hd hin
 go_enter Tryz.func155,Tryz.ntmps155
 go_wp2_with fail
 refine HI.out.mono ?_
 rintro e w1 ⟨r,rfl,hr,hm⟩
 have HR:=Hmr hr
 clear hr
 go_wp2_with fail
 go_ret
 exact ⟨by rw [<-HR.out];rfl,hm⟩
theorem twice_any(v:Value)(ns:List Int)(w:World)(hv:IntsV w v ns)(hin:∀ x∈ns,int64 x)(hn:ns.length<=1000000) :
  Calls Tryz.prog 235 #[v] w fun e w'=>e=.returned (.bool (dupB [] ns))/\Mod noBlock w w':=by
 have hmm:=@run_makeMap Tryz.prog
 have hv0:=hv
 obtain ⟨a,cap,rfl,hc1,hc2,hcl⟩:=hv0
 go_enter Tryz.func235,Tryz.ntmps235
 go_wp2_with fail
 have hm2:Mod noBlock w ((w.alloc (.map #[] 0)).alloc (.cells #[.map (some w.heap.size)] 150)):=((Mod.refl _ w).alloc _).alloc _
 have hdn:DownAt ((w.alloc (.map #[] 0)).alloc (.cells #[.map (some w.heap.size)] 150)) w.heap.size (some w.heap.size) []:=
  .inr ⟨w.heap.size,.map [],rfl,Nat.le_refl _,(World.ownsMap_made (H:=Unit) w Tryz.prog 3 unitElem).alloc _,fun x _=>by simp [Maps.has]⟩
 have hbq:=Blk.new (w.alloc (.map #[] 0)) [.map (some w.heap.size)] 150
 rw [World.size_alloc] at hbq
 refine (twiceHas_any w.heap.size (w.heap.size+1) w.heap.size _ ns _ (hv.quiet hm2) (fun hne a' n' cap' e=>?_) (hbq.cell 0 rfl) (by omega) hdn hin hn).mono ?_
 ·simp only [Value.slice.injEq] at e
  rcases hcl with e0 | ⟨ab,off,e1,h2⟩
  ·exact absurd e0 hne
  ·obtain ⟨x,hx⟩:∃ x,ns[0]?=some x:=⟨_,List.getElem?_eq_getElem (by cases ns with | nil=>exact absurd rfl hne | cons=>simp)⟩
   have:=World.block_lt_of_cell? w _ (h2 0 x hx)
   rw [e1] at e
   have e3:=e.1
   simp at e3
   rw [<-e3]
   simp only at this ⊢
   omega
 ·rintro e w3 ⟨rfl,hm3⟩
  go_wp2_with fail
  go_ret
  exact ⟨rfl,hm2.trans' hm3 (fun i hi e=>by simp only [oneBlock] at e;omega)⟩
theorem IntsV.cells{w:World}{a:Option Addr}{n cap:Nat}{ns:List Int}(h:IntsV w (.slice a n cap) ns)(h0:ns≠[]) :
  ∃ b off,a=some ⟨b,off,none⟩/\∀ (j:Nat) u,(ns.map (Value.int .i64))[j]?=some u->w.cell? ((⟨b,off,none⟩:Addr).add j)=some u:=by
 obtain ⟨a',cap',h1,_,_,h4⟩:=h
 simp only [Value.slice.injEq] at h1
 obtain ⟨rfl,_,rfl⟩:=h1
 rcases h4 with h4 | ⟨b,off,h5,h6⟩
 ·exact absurd h4 h0
 ·refine ⟨b,off,h5,fun j u hu=>?_⟩
  rw [Go.WideShapes.add_plain]
  rw [List.getElem?_map] at hu
  cases hj:ns[j]? with
  | none=>rw [hj] at hu;cases hu
  | some x=>rw [hj] at hu;cases hu;exact h6 j x hj
theorem Tryz.infoI:(Tryz.prog.info? 3).map (fun i=>(i.zero,i.size,i.bytes))=some (some (.int .i64 0),1,8):=by kernel_rfl
theorem ints_one(ns:List Int):∀ u∈ns.map (Value.int .i64),u.oneCell'=true:=by
 intro u hu
 obtain ⟨x,_,rfl⟩:=List.mem_map.1 hu
 rfl
theorem cloneI_any(v:Value)(ns:List Int)(w:World)(hv:IntsV w v ns)(hne:ns≠[])(hn:ns.length<=1000000) :
  Calls Tryz.prog 237 #[v] w fun e w'=>∃ v',e=.returned v'/\w'.ownsRow w.heap.size 3 1 v' ns.length (ns.map (Value.int .i64))/\Mod noBlock w w':=by
 obtain ⟨i0,hi,hz0,hz1,hz2⟩:=info_parts Tryz.infoI
 have hv0:=hv
 obtain ⟨a,cap,rfl,hc1,hc2,_⟩:=hv0
 obtain ⟨b,off,rfl,hcl⟩:=hv.cells hne
 have hm1:Mod noBlock w (w.alloc (.cells #[] 3)):=(Mod.refl _ w).alloc _
 have HCL:Hid (∀ (j:Nat) u,(ns.map (Value.int .i64))[j]?=some u->(w.alloc (.cells #[] 3)).cell? ((⟨b,off,none⟩:Addr).add j)=some u):=fun j u hju=>hm1.cell (hcl j u hju) id
 have HO:Hid ((w.alloc (.cells #[] 3)).ownsRow w.heap.size 3 1 (.slice (some ⟨w.heap.size,0,none⟩) 0 0) 0 []):=
  ⟨rfl,.inr ⟨w.heap.size,0,#[],rfl,Nat.le_refl _,heap_alloc_new w _,Nat.le_refl _,by unfold maxLen;omega,rfl,rfl⟩⟩
 have HL:Hid ((ns.map (Value.int .i64)).length=ns.length*1):=by rw [Hid];simp
 have HON:=Hmr (ints_one ns)
 have hk63:0+ns.length<=maxLen:=by unfold maxLen;omega
 have hk47:(0+ns.length)*8<=140737488355328:=by omega
 have hen:=run_eql_slice_nil (P:=Tryz.prog) w 163 3 (some ⟨b,off,none⟩) ns.length cap 0 0 Tryz.underlying163
 clear hcl hv
 go_enter Tryz.func237,Tryz.ntmps237
 go_wp2_with (first
  | (at_builtin;refine wpList_append_own _ rfl _ _ 163 rfl w.heap.size 3 i0 _ 1 8 Tryz.underlying163 hi hz0 hz1 hz2 rfl (by omega) _ _ _ rfl HO.out ⟨b,off,none⟩ _ _ (ns.map (Value.int .i64)) rfl HL.out HCL.out HON.out hk63 hk47 (by simp) ?_)
  | fail)
 intro v' w1 hown1 hgrow _
 have hm2:Mod (newer w.heap.size) (w.alloc (.cells #[] 3)) w1:=(Mod.refl _ _).grown hgrow (fun x hx _=>by simp [Value.ownBlock] at hx;simp only [newer];omega)
 have HW:=Hmr hown1
 clear hown1 hgrow HO HCL HL HON
 go_wp2_with fail
 go_ret
 exact ⟨_,rfl,by simpa using HW.out,hm1.since hm2 (Nat.le_refl _)⟩
end Go.Proofs.YtiblcbdkiecbgaaGreatDoor
