/- Texts of the stage, joined: Shelf. -/
import Derived.Shelf.Small.Strs
import Derived.Shelf.Strconv.Itoa0
import Derived.Shelf.Strconv.Itoa1
import Derived.Shelf.LaysM
import Derived.Shelf.Strconv.Itoa2
import Derived.Shelf.Strconv.Itoa3
import Derived.Shelf.Strconv.Itoa4
import Derived.Shelf.Strings.Fields
import Derived.Test.YtahkohfppakaiaaGreatDoorProg
set_option maxHeartbeats 40000000
set_option maxRecDepth 100000
namespace Go.Proofs
open Go.Shelf
def Tryz.laysM173_ren : Go.Shelf.Ren := ⟨fun | 173 => 154 | 246 => 181 | 283 => 232 | 284 => 233 | 285 => 234 | 286 => 235 | 129 => 260 | 317 => 259 | 318 => 261 | 319 => 262 | 320 => 263 | 337 => 278 | 338 => 279 | n => n, fun | 2 => 2 | 3 => 3 | 9 => 9 | 4 => 4 | 171 => 313 | 0 => 0 | 53 => 314 | 37 => 106 | 5 => 5 | 173 => 317 | 212 => 342 | 51 => 224 | 20 => 20 | 213 => 343 | 46 => 195 | 232 => 364 | 233 => 365 | n => n, fun | 17 => 4 | 18 => 5 | 19 => 6 | n => n⟩
open Go.RowKit Go.Sort Go.Lib in
def Tryz.lays173_ren : Go.Shelf.Ren := ⟨fun | 173 => 154 | 246 => 181 | 283 => 232 | 284 => 233 | 285 => 234 | 286 => 235 | 129 => 260 | 317 => 259 | 318 => 261 | 319 => 262 | 320 => 263 | 337 => 278 | 338 => 279 | n => n, fun | 2 => 2 | 3 => 3 | 9 => 9 | 4 => 4 | 171 => 313 | 0 => 0 | 53 => 314 | 37 => 106 | 5 => 5 | 173 => 317 | 212 => 342 | 51 => 224 | 20 => 20 | 213 => 343 | 46 => 195 | 232 => 364 | 233 => 365 | n => n, fun | 17 => 4 | 18 => 5 | 19 => 6 | n => n⟩
theorem Tryz.lays173 : Go.Proofs.Lays.n173 Tryz.prog Tryz.lays173_ren := {
 mixed := by kernel_rfl
 f129 := Tryz.func260.trans (congrArg some (by kernel_rfl))
 f173 := Tryz.func154.trans (congrArg some (by kernel_rfl))
 f246 := Tryz.func181.trans (congrArg some (by kernel_rfl))
 f283 := Tryz.func232.trans (congrArg some (by kernel_rfl))
 f284 := Tryz.func233.trans (congrArg some (by kernel_rfl))
 f285 := Tryz.func234.trans (congrArg some (by kernel_rfl))
 f286 := Tryz.func235.trans (congrArg some (by kernel_rfl))
 f317 := Tryz.func259.trans (congrArg some (by kernel_rfl))
 f318 := Tryz.func261.trans (congrArg some (by kernel_rfl))
 f319 := Tryz.func262.trans (congrArg some (by kernel_rfl))
 f320 := Tryz.func263.trans (congrArg some (by kernel_rfl))
 f337 := Tryz.func278.trans (congrArg some (by kernel_rfl))
 f338 := Tryz.func279.trans (congrArg some (by kernel_rfl))
 t0 := Tryz.underlying0
 a0 := Tryz.isAgg0
 z0 := Tryz.sizeOf0
 v0 := Tryz.zeroValue0
 t2 := Tryz.underlying2
 a2 := Tryz.isAgg2
 z2 := Tryz.sizeOf2
 v2 := Tryz.zeroValue2
 t3 := Tryz.underlying3
 a3 := Tryz.isAgg3
 z3 := Tryz.sizeOf3
 v3 := Tryz.zeroValue3
 t4 := Tryz.underlying4
 a4 := Tryz.isAgg4
 z4 := Tryz.sizeOf4
 v4 := Tryz.zeroValue4
 t5 := Tryz.underlying5
 a5 := Tryz.isAgg5
 z5 := Tryz.sizeOf5
 v5 := Tryz.zeroValue5
 t9 := Tryz.underlying9
 a9 := Tryz.isAgg9
 z9 := Tryz.sizeOf9
 v9 := Tryz.zeroValue9
 t20 := Tryz.underlying20
 a20 := Tryz.isAgg20
 z20 := Tryz.sizeOf20
 v20 := Tryz.zeroValue20
 t37 := Tryz.underlying106
 a37 := Tryz.isAgg106
 z37 := Tryz.sizeOf106
 v37 := Tryz.zeroValue106
 t46 := Tryz.underlying195
 a46 := Tryz.isAgg195
 z46 := Tryz.sizeOf195
 v46 := Tryz.zeroValue195
 t51 := Tryz.underlying224
 a51 := Tryz.isAgg224
 z51 := Tryz.sizeOf224
 v51 := Tryz.zeroValue224
 t53 := Tryz.underlying314
 a53 := Tryz.isAgg314
 z53 := Tryz.sizeOf314
 v53 := Tryz.zeroValue314
 t171 := Tryz.underlying313
 a171 := Tryz.isAgg313
 z171 := Tryz.sizeOf313
 v171 := Tryz.zeroValue313
 t173 := Tryz.underlying317
 a173 := Tryz.isAgg317
 z173 := Tryz.sizeOf317
 v173 := Tryz.zeroValue317
 t212 := Tryz.underlying342
 a212 := Tryz.isAgg342
 z212 := Tryz.sizeOf342
 v212 := Tryz.zeroValue342
 t213 := Tryz.underlying343
 a213 := Tryz.isAgg343
 z213 := Tryz.sizeOf343
 t232 := Tryz.underlying364
 a232 := Tryz.isAgg364
 z232 := Tryz.sizeOf364
 v232 := Tryz.zeroValue364
 t233 := Tryz.underlying365
 a233 := Tryz.isAgg365
 z233 := Tryz.sizeOf365
 v233 := Tryz.zeroValue365
 g17 := by kernel_rfl
 g18 := by kernel_rfl
 g19 := by kernel_rfl }
open Go.RowKit Go.Sort Go.Lib in
theorem Tryz.strconv_FormatInt_10_small (i : Nat) (hi : i < 100) (w : World) :
  Calls Tryz.prog 154 #[.int .i64 i, .int .i64 10] w fun e w' => e = .returned (.string ⟨(Lib.decDigits i).toArray⟩) /\ w' = w := Any.strconv_FormatInt_10_small Tryz.lays173 i hi w
def Tryz.lays157_ren : Go.Shelf.Ren := ⟨fun | 157 => 106 | 229 => 132 | 199 => 133 | 261 => 151 | 311 => 179 | 312 => 180 | n => n, fun | 9 => 9 | 31 => 47 | 3 => 3 | 5 => 5 | 4 => 4 | 119 => 206 | 0 => 0 | 40 => 208 | 152 => 226 | 21 => 21 | 154 => 228 | 51 => 224 | 141 => 230 | 196 => 256 | 193 => 253 | 198 => 258 | 49 => 66 | 194 => 254 | 201 => 261 | 226 => 311 | 46 => 195 | 227 => 312 | n => n, fun | 0 => 0 | 6 => 1 | n => n⟩
theorem Tryz.lays157 : Go.Proofs.Lays.n157 Tryz.prog Tryz.lays157_ren := {
 mixed := by kernel_rfl
 f157 := Tryz.func106.trans (congrArg some (by kernel_rfl))
 f199 := Tryz.func133.trans (congrArg some (by kernel_rfl))
 f229 := Tryz.func132.trans (congrArg some (by kernel_rfl))
 f261 := Tryz.func151.trans (congrArg some (by kernel_rfl))
 f311 := Tryz.func179.trans (congrArg some (by kernel_rfl))
 f312 := Tryz.func180.trans (congrArg some (by kernel_rfl))
 t0 := Tryz.underlying0
 a0 := Tryz.isAgg0
 z0 := Tryz.sizeOf0
 v0 := Tryz.zeroValue0
 t3 := Tryz.underlying3
 a3 := Tryz.isAgg3
 z3 := Tryz.sizeOf3
 v3 := Tryz.zeroValue3
 t4 := Tryz.underlying4
 a4 := Tryz.isAgg4
 z4 := Tryz.sizeOf4
 v4 := Tryz.zeroValue4
 t5 := Tryz.underlying5
 a5 := Tryz.isAgg5
 z5 := Tryz.sizeOf5
 v5 := Tryz.zeroValue5
 t9 := Tryz.underlying9
 a9 := Tryz.isAgg9
 z9 := Tryz.sizeOf9
 v9 := Tryz.zeroValue9
 t21 := Tryz.underlying21
 a21 := Tryz.isAgg21
 z21 := Tryz.sizeOf21
 v21 := Tryz.zeroValue21
 t31 := Tryz.underlying47
 a31 := Tryz.isAgg47
 z31 := Tryz.sizeOf47
 v31 := Tryz.zeroValue47
 t40 := Tryz.underlying208
 a40 := Tryz.isAgg208
 z40 := Tryz.sizeOf208
 v40 := Tryz.zeroValue208
 t46 := Tryz.underlying195
 a46 := Tryz.isAgg195
 z46 := Tryz.sizeOf195
 v46 := Tryz.zeroValue195
 t49 := Tryz.underlying66
 a49 := Tryz.isAgg66
 z49 := Tryz.sizeOf66
 v49 := Tryz.zeroValue66
 t51 := Tryz.underlying224
 a51 := Tryz.isAgg224
 z51 := Tryz.sizeOf224
 v51 := Tryz.zeroValue224
 t119 := Tryz.underlying206
 a119 := Tryz.isAgg206
 z119 := Tryz.sizeOf206
 t141 := Tryz.underlying230
 a141 := Tryz.isAgg230
 z141 := Tryz.sizeOf230
 v141 := Tryz.zeroValue230
 t152 := Tryz.underlying226
 a152 := Tryz.isAgg226
 z152 := Tryz.sizeOf226
 v152 := Tryz.zeroValue226
 t154 := Tryz.underlying228
 a154 := Tryz.isAgg228
 z154 := Tryz.sizeOf228
 v154 := Tryz.zeroValue228
 t193 := Tryz.underlying253
 a193 := Tryz.isAgg253
 z193 := Tryz.sizeOf253
 v193 := Tryz.zeroValue253
 t194 := Tryz.underlying254
 a194 := Tryz.isAgg254
 z194 := Tryz.sizeOf254
 v194 := Tryz.zeroValue254
 t196 := Tryz.underlying256
 a196 := Tryz.isAgg256
 z196 := Tryz.sizeOf256
 v196 := Tryz.zeroValue256
 t198 := Tryz.underlying258
 a198 := Tryz.isAgg258
 z198 := Tryz.sizeOf258
 v198 := Tryz.zeroValue258
 t201 := Tryz.underlying261
 a201 := Tryz.isAgg261
 z201 := Tryz.sizeOf261
 v201 := Tryz.zeroValue261
 t226 := Tryz.underlying311
 a226 := Tryz.isAgg311
 z226 := Tryz.sizeOf311
 v226 := Tryz.zeroValue311
 t227 := Tryz.underlying312
 a227 := Tryz.isAgg312
 z227 := Tryz.sizeOf312
 v227 := Tryz.zeroValue312
 g0 := by kernel_rfl
 g6 := by kernel_rfl }
open Go.RowKit Go.Lib in
theorem Tryz.strings_Fields (s : ByteArray) (w : World) (hs : s.size < 4294967281) (hascii : ∀ (j : Nat) b, s.data.toList[j]? = some b -> b.toNat < 128) (htab : Lib.TabIs Tryz.prog w "strings.asciiSpace" .u8 Lib.asciiSpaceTab) :
  Calls Tryz.prog 106 #[.string s] w fun e w' =>
   e = .returned (.slice (some ⟨w.heap.size, 0, none⟩) (Lib.fields s.data.toList).length (Lib.fields s.data.toList).length) /\ w' = w.alloc (.cells ((Lib.fields s.data.toList).map fun l => Value.string ⟨l.toArray⟩).toArray 9) := Any.strings_Fields Tryz.lays157 (by kernel_rfl) (by kernel_rfl) s w hs hascii htab
end Go.Proofs
