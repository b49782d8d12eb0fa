/- sort.Strings: the library's law is laid at this program (written by the kit's own tool: its numbers are this seat's). -/
import Derived.Shelf.Sort.Plain
import Derived.Shelf.Slices.In.SortNone2
import Derived.Shelf.SlGeneric
import Derived.Shelf.Lays
import Derived.Ground.NamesProg
import Derived.Test.YtefhgakcffhgaaaDoorProg
namespace Go.Proofs.YtefhgakcffhgaaaDoor
open Go.Shelf
def Tryd.sortStrings_ren : Go.Shelf.Ren := ⟨fun | 192 => 98 | 190 => 132 | 125 => 129 | 258 => 156 | 128 => 153 | 129 => 154 | 302 => 164 | 303 => 165 | 304 => 166 | 305 => 167 | 306 => 168 | 307 => 169 | 308 => 170 | 309 => 171 | 310 => 172 | 333 => 174 | 329 => 160 | 330 => 161 | 334 => 175 | 335 => 176 | 336 => 177 | 344 => 178 | n => n, fun | 31 => 174 | 0 => 0 | 9 => 9 | 3 => 3 | 46 => 39 | 51 => 246 | 53 => 248 | 4 => 4 | 183 => 240 | 182 => 239 | 131 => 221 | 5 => 5 | 218 => 252 | 222 => 256 | 228 => 264 | 229 => 265 | n => n, fun | n => n⟩
theorem Tryd.sortStrings : Go.Proofs.Lays.n192 Tryd.prog Tryd.sortStrings_ren := {
  mixed := by kernel_rfl
  f125 := Tryd.func129.trans (congrArg some (by kernel_rfl))
  f128 := Tryd.func153.trans (congrArg some (by kernel_rfl))
  f129 := Tryd.func154.trans (congrArg some (by kernel_rfl))
  f190 := Tryd.func132.trans (congrArg some (by kernel_rfl))
  f192 := Tryd.func98.trans (congrArg some (by kernel_rfl))
  f258 := Tryd.func156.trans (congrArg some (by kernel_rfl))
  f302 := Tryd.func164.trans (congrArg some (by kernel_rfl))
  f303 := Tryd.func165.trans (congrArg some (by kernel_rfl))
  f304 := Tryd.func166.trans (congrArg some (by kernel_rfl))
  f305 := Tryd.func167.trans (congrArg some (by kernel_rfl))
  f306 := Tryd.func168.trans (congrArg some (by kernel_rfl))
  f307 := Tryd.func169.trans (congrArg some (by kernel_rfl))
  f308 := Tryd.func170.trans (congrArg some (by kernel_rfl))
  f309 := Tryd.func171.trans (congrArg some (by kernel_rfl))
  f310 := Tryd.func172.trans (congrArg some (by kernel_rfl))
  f329 := Tryd.func160.trans (congrArg some (by kernel_rfl))
  f330 := Tryd.func161.trans (congrArg some (by kernel_rfl))
  f333 := Tryd.func174.trans (congrArg some (by kernel_rfl))
  f334 := Tryd.func175.trans (congrArg some (by kernel_rfl))
  f335 := Tryd.func176.trans (congrArg some (by kernel_rfl))
  f336 := Tryd.func177.trans (congrArg some (by kernel_rfl))
  f344 := Tryd.func178.trans (congrArg some (by kernel_rfl))
  t0 := Tryd.underlying0
  a0 := Tryd.isAgg0
  z0 := Tryd.sizeOf0
  v0 := Tryd.zeroValue0
  t3 := Tryd.underlying3
  a3 := Tryd.isAgg3
  z3 := Tryd.sizeOf3
  v3 := Tryd.zeroValue3
  t4 := Tryd.underlying4
  a4 := Tryd.isAgg4
  z4 := Tryd.sizeOf4
  v4 := Tryd.zeroValue4
  t5 := Tryd.underlying5
  a5 := Tryd.isAgg5
  z5 := Tryd.sizeOf5
  v5 := Tryd.zeroValue5
  t9 := Tryd.underlying9
  a9 := Tryd.isAgg9
  z9 := Tryd.sizeOf9
  v9 := Tryd.zeroValue9
  t31 := Tryd.underlying174
  a31 := Tryd.isAgg174
  z31 := Tryd.sizeOf174
  v31 := Tryd.zeroValue174
  t46 := Tryd.underlying39
  a46 := Tryd.isAgg39
  z46 := Tryd.sizeOf39
  v46 := Tryd.zeroValue39
  t51 := Tryd.underlying246
  a51 := Tryd.isAgg246
  z51 := Tryd.sizeOf246
  v51 := Tryd.zeroValue246
  t53 := Tryd.underlying248
  a53 := Tryd.isAgg248
  z53 := Tryd.sizeOf248
  v53 := Tryd.zeroValue248
  t131 := Tryd.underlying221
  a131 := Tryd.isAgg221
  z131 := Tryd.sizeOf221
  v131 := Tryd.zeroValue221
  t182 := Tryd.underlying239
  a182 := Tryd.isAgg239
  z182 := Tryd.sizeOf239
  v182 := Tryd.zeroValue239
  t183 := Tryd.underlying240
  a183 := Tryd.isAgg240
  z183 := Tryd.sizeOf240
  v183 := Tryd.zeroValue240
  t218 := Tryd.underlying252
  a218 := Tryd.isAgg252
  z218 := Tryd.sizeOf252
  v218 := Tryd.zeroValue252
  t222 := Tryd.underlying256
  a222 := Tryd.isAgg256
  z222 := Tryd.sizeOf256
  v222 := Tryd.zeroValue256
  t228 := Tryd.underlying264
  a228 := Tryd.isAgg264
  z228 := Tryd.sizeOf264
  v228 := Tryd.zeroValue264
  t229 := Tryd.underlying265
  a229 := Tryd.isAgg265
  z229 := Tryd.sizeOf265
  v229 := Tryd.zeroValue265 }
end Go.Proofs.YtefhgakcffhgaaaDoor
