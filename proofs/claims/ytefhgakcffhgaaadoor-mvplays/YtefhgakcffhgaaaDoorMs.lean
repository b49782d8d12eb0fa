/- slices.SortFunc at pairs: the library's law is laid at this program (written by the kit's own tool: its numbers are this seat's). -/
import Derived.Shelf.SlGeneric
import Derived.Shelf.SlSortCmp.NoneTotal
import Derived.Ground.SlsfProg
import Derived.Test.YtefhgakcffhgaaaDoorProg
namespace Go.Proofs.YtefhgakcffhgaaaDoor
open Go.Shelf
def Tryd.sortPairs_ren : Go.Shelf.Ren := ⟨fun | 6 => 94 | 15 => 129 | 14 => 128 | 28 => 153 | 29 => 154 | 20 => 145 | 21 => 146 | 22 => 147 | 23 => 148 | 24 => 149 | 25 => 150 | 26 => 151 | 27 => 152 | 46 => 159 | 47 => 160 | 48 => 161 | 49 => 162 | 50 => 163 | 57 => 173 | n => n, fun | 22 => 22 | 24 => 84 | 25 => 169 | 3 => 3 | 39 => 39 | 0 => 0 | 53 => 246 | 55 => 248 | 4 => 4 | 46 => 240 | 45 => 239 | 50 => 221 | 5 => 5 | 9 => 9 | 66 => 252 | 70 => 256 | 76 => 264 | 77 => 265 | n => n, fun | n => n⟩
theorem Tryd.sortPairs : Go.Proofs.SlLaysF0.n6 Tryd.prog Tryd.sortPairs_ren := {
  mixed := by kernel_rfl
  f6 := ⟨Tryd.f94.name, by decide, Tryd.func94.trans (congrArg some (by kernel_rfl))⟩
  f14 := ⟨Tryd.f128.name, by decide, Tryd.func128.trans (congrArg some (by kernel_rfl))⟩
  f15 := Tryd.func129.trans (congrArg some (by kernel_rfl))
  f20 := ⟨Tryd.f145.name, by decide, Tryd.func145.trans (congrArg some (by kernel_rfl))⟩
  f21 := ⟨Tryd.f146.name, by decide, Tryd.func146.trans (congrArg some (by kernel_rfl))⟩
  f22 := ⟨Tryd.f147.name, by decide, Tryd.func147.trans (congrArg some (by kernel_rfl))⟩
  f23 := ⟨Tryd.f148.name, by decide, Tryd.func148.trans (congrArg some (by kernel_rfl))⟩
  f24 := ⟨Tryd.f149.name, by decide, Tryd.func149.trans (congrArg some (by kernel_rfl))⟩
  f25 := ⟨Tryd.f150.name, by decide, Tryd.func150.trans (congrArg some (by kernel_rfl))⟩
  f26 := ⟨Tryd.f151.name, by decide, Tryd.func151.trans (congrArg some (by kernel_rfl))⟩
  f27 := ⟨Tryd.f152.name, by decide, Tryd.func152.trans (congrArg some (by kernel_rfl))⟩
  f28 := Tryd.func153.trans (congrArg some (by kernel_rfl))
  f29 := Tryd.func154.trans (congrArg some (by kernel_rfl))
  f46 := ⟨Tryd.f159.name, by decide, Tryd.func159.trans (congrArg some (by kernel_rfl))⟩
  f47 := Tryd.func160.trans (congrArg some (by kernel_rfl))
  f48 := Tryd.func161.trans (congrArg some (by kernel_rfl))
  f49 := ⟨Tryd.f162.name, by decide, Tryd.func162.trans (congrArg some (by kernel_rfl))⟩
  f50 := ⟨Tryd.f163.name, by decide, Tryd.func163.trans (congrArg some (by kernel_rfl))⟩
  f57 := ⟨Tryd.f173.name, by decide, Tryd.func173.trans (congrArg some (by kernel_rfl))⟩
  t0 := Tryd.underlying0
  a0 := Tryd.isAgg0
  z0 := Tryd.sizeOf0
  v0 := Tryd.zeroValue0
  t3 := Tryd.underlying3
  a3 := Tryd.isAgg3
  z3 := Tryd.sizeOf3
  v3 := Tryd.zeroValue3
  t4 := Tryd.underlying4
  a4 := Tryd.isAgg4
  z4 := Tryd.sizeOf4
  v4 := Tryd.zeroValue4
  t5 := Tryd.underlying5
  a5 := Tryd.isAgg5
  z5 := Tryd.sizeOf5
  v5 := Tryd.zeroValue5
  t9 := Tryd.underlying9
  a9 := Tryd.isAgg9
  z9 := Tryd.sizeOf9
  v9 := Tryd.zeroValue9
  t22 := Tryd.underlying22
  a22 := Tryd.isAgg22
  z22 := Tryd.sizeOf22
  v22 := Tryd.zeroValue22
  t25 := Tryd.underlying169
  a25 := Tryd.isAgg169
  z25 := Tryd.sizeOf169
  v25 := Tryd.zeroValue169
  t39 := Tryd.underlying39
  a39 := Tryd.isAgg39
  z39 := Tryd.sizeOf39
  v39 := Tryd.zeroValue39
  t45 := Tryd.underlying239
  a45 := Tryd.isAgg239
  z45 := Tryd.sizeOf239
  v45 := Tryd.zeroValue239
  t46 := Tryd.underlying240
  a46 := Tryd.isAgg240
  z46 := Tryd.sizeOf240
  v46 := Tryd.zeroValue240
  t50 := Tryd.underlying221
  a50 := Tryd.isAgg221
  z50 := Tryd.sizeOf221
  v50 := Tryd.zeroValue221
  t53 := Tryd.underlying246
  a53 := Tryd.isAgg246
  z53 := Tryd.sizeOf246
  v53 := Tryd.zeroValue246
  t55 := Tryd.underlying248
  a55 := Tryd.isAgg248
  z55 := Tryd.sizeOf248
  v55 := Tryd.zeroValue248
  t66 := Tryd.underlying252
  a66 := Tryd.isAgg252
  z66 := Tryd.sizeOf252
  v66 := Tryd.zeroValue252
  t70 := Tryd.underlying256
  a70 := Tryd.isAgg256
  z70 := Tryd.sizeOf256
  v70 := Tryd.zeroValue256
  t76 := Tryd.underlying264
  a76 := Tryd.isAgg264
  z76 := Tryd.sizeOf264
  v76 := Tryd.zeroValue264
  t77 := Tryd.underlying265
  a77 := Tryd.isAgg265
  z77 := Tryd.sizeOf265
  v77 := Tryd.zeroValue265 }
end Go.Proofs.YtefhgakcffhgaaaDoor
