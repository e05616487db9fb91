/- Each theorem here says its own conditions. -/
import Derived.Shelf.Strings.OnBuilder
import Derived.Shelf.Strings.Split
import Derived.Shelf.Strings.Builder1
import Derived.Shelf.Strings.Builder2
import Derived.Shelf.LaysM
import Derived.Shelf.Strconv.Itoa3
import Derived.Shelf.Strconv.Itoa4
import Derived.Shelf.Strings.Prefix
import Derived.Shelf.Strings.SlTrimAscii
import Derived.Shelf.Small.Wraps
import Derived.Ground.NamesProg
import Derived.Test.YtfflmmbhpchloaaGreatDoorProg
import Derived.Test.YtfflmmbhpchloaaGreatDoorGTtc1
import Derived.Test.YtfflmmbhpchloaaGreatDoorGTtc0
import Derived.Deep.RegionHeld3
import Derived.Deep.CutRange
import Derived.Maps.OwnSet
import Derived.Maps.OwnOps
import Derived.StringKeys
set_option maxRecDepth 100000
set_option maxHeartbeats 16000000
section
namespace Go.Proofs
open Go.Shelf
def Tryz.lays160_ren : Go.Shelf.Ren := ⟨fun | 160 => 245 | 232 => 252 | 231 => 105 | 227 => 106 | 234 => 253 | 233 => 107 | 236 => 254 | 235 => 108 | 228 => 151 | 271 => 257 | 151 => 153 | 197 => 152 | 120 => 258 | 152 => 201 | 260 => 200 | 137 => 221 | 119 => 222 | 224 => 218 | 225 => 217 | 217 => 216 | 266 => 233 | n => n, fun | 9 => 9 | 4 => 4 | 3 => 3 | 5 => 5 | 117 => 191 | 116 => 190 | 0 => 0 | 124 => 194 | 21 => 21 | 105 => 238 | 46 => 165 | 119 => 288 | 139 => 291 | 138 => 290 | n => n, fun | 3 => 1 | 4 => 2 | n => n⟩
theorem Tryz.lays160 : Go.Proofs.Lays.n160 Tryz.prog Tryz.lays160_ren := {
 mixed := by kernel_rfl
 f119 := Tryz.func222.trans (congrArg some (by kernel_rfl))
 f120 := Tryz.func258.trans (congrArg some (by kernel_rfl))
 f137 := Tryz.func221.trans (congrArg some (by kernel_rfl))
 f151 := Tryz.func153.trans (congrArg some (by kernel_rfl))
 f152 := Tryz.func201.trans (congrArg some (by kernel_rfl))
 f160 := Tryz.func245.trans (congrArg some (by kernel_rfl))
 f197 := Tryz.func152.trans (congrArg some (by kernel_rfl))
 f217 := Tryz.func216.trans (congrArg some (by kernel_rfl))
 f224 := Tryz.func218.trans (congrArg some (by kernel_rfl))
 f225 := Tryz.func217.trans (congrArg some (by kernel_rfl))
 f227 := Tryz.func106.trans (congrArg some (by kernel_rfl))
 f228 := Tryz.func151.trans (congrArg some (by kernel_rfl))
 f231 := Tryz.func105.trans (congrArg some (by kernel_rfl))
 f232 := Tryz.func252.trans (congrArg some (by kernel_rfl))
 f233 := Tryz.func107.trans (congrArg some (by kernel_rfl))
 f234 := Tryz.func253.trans (congrArg some (by kernel_rfl))
 f235 := Tryz.func108.trans (congrArg some (by kernel_rfl))
 f236 := Tryz.func254.trans (congrArg some (by kernel_rfl))
 f260 := Tryz.func200.trans (congrArg some (by kernel_rfl))
 f266 := Tryz.func233.trans (congrArg some (by kernel_rfl))
 f271 := Tryz.func257.trans (congrArg some (by kernel_rfl))
 t0 := Tryz.underlying0
 a0 := Tryz.isAgg0
 z0 := Tryz.sizeOf0
 v0 := Tryz.zeroValue0
 t3 := Tryz.underlying3
 a3 := Tryz.isAgg3
 z3 := Tryz.sizeOf3
 v3 := Tryz.zeroValue3
 t4 := Tryz.underlying4
 a4 := Tryz.isAgg4
 z4 := Tryz.sizeOf4
 v4 := Tryz.zeroValue4
 t5 := Tryz.underlying5
 a5 := Tryz.isAgg5
 z5 := Tryz.sizeOf5
 v5 := Tryz.zeroValue5
 t9 := Tryz.underlying9
 a9 := Tryz.isAgg9
 z9 := Tryz.sizeOf9
 v9 := Tryz.zeroValue9
 t21 := Tryz.underlying21
 a21 := Tryz.isAgg21
 z21 := Tryz.sizeOf21
 v21 := Tryz.zeroValue21
 t46 := Tryz.underlying165
 a46 := Tryz.isAgg165
 z46 := Tryz.sizeOf165
 v46 := Tryz.zeroValue165
 t105 := Tryz.underlying238
 a105 := Tryz.isAgg238
 z105 := Tryz.sizeOf238
 v105 := Tryz.zeroValue238
 t116 := Tryz.underlying190
 a116 := Tryz.isAgg190
 z116 := Tryz.sizeOf190
 t117 := Tryz.underlying191
 a117 := Tryz.isAgg191
 z117 := Tryz.sizeOf191
 v117 := Tryz.zeroValue191
 t119 := Tryz.underlying288
 a119 := Tryz.isAgg288
 z119 := Tryz.sizeOf288
 t124 := Tryz.underlying194
 a124 := Tryz.isAgg194
 z124 := Tryz.sizeOf194
 v124 := Tryz.zeroValue194
 t138 := Tryz.underlying290
 a138 := Tryz.isAgg290
 z138 := Tryz.sizeOf290
 v138 := Tryz.zeroValue290
 t139 := Tryz.underlying291
 a139 := Tryz.isAgg291
 z139 := Tryz.sizeOf291
 v139 := Tryz.zeroValue291
 g3 := by kernel_rfl
 g4 := by kernel_rfl }
def Tryz.lays103_ren : Go.Shelf.Ren := ⟨fun | 103 => 232 | 210 => 244 | 206 => 138 | n => n, fun | 9 => 9 | 4 => 4 | 24 => 45 | 3 => 3 | n => n, fun | n => n⟩
theorem Tryz.lays103 : Go.Proofs.Lays.n103 Tryz.prog Tryz.lays103_ren := {
 mixed := by kernel_rfl
 f103 := Tryz.func232.trans (congrArg some (by kernel_rfl))
 f206 := Tryz.func138.trans (congrArg some (by kernel_rfl))
 f210 := Tryz.func244.trans (congrArg some (by kernel_rfl))
 t3 := Tryz.underlying3
 a3 := Tryz.isAgg3
 z3 := Tryz.sizeOf3
 v3 := Tryz.zeroValue3
 t4 := Tryz.underlying4
 a4 := Tryz.isAgg4
 z4 := Tryz.sizeOf4
 v4 := Tryz.zeroValue4
 t9 := Tryz.underlying9
 a9 := Tryz.isAgg9
 z9 := Tryz.sizeOf9
 v9 := Tryz.zeroValue9
 t24 := Tryz.underlying45
 a24 := Tryz.isAgg45
 z24 := Tryz.sizeOf45
 v24 := Tryz.zeroValue45 }
open Go.RowKit in
theorem Tryz.strings_CutPrefix (s p : ByteArray) (w : World) :
 Calls Tryz.prog 232 #[.string s, .string p] w fun e w' => e = .returned (.tuple #[.string ⟨(Lib.trimPrefix s.data.toList p.data.toList).toArray⟩, .bool (Lib.hasPrefix s.data.toList p.data.toList)]) ∧ w' = w := Any.strings_CutPrefix Tryz.lays103 s p w
def Tryz.lays171_ren : Go.Shelf.Ren := ⟨fun | 171 => 178 | 243 => 210 | 246 => 230 | 283 => 240 | 284 => 241 | 285 => 242 | 286 => 243 | 129 => 164 | 317 => 248 | 318 => 249 | 319 => 250 | 320 => 251 | 337 => 255 | 338 => 256 | n => n, fun | 3 => 3 | 9 => 9 | 2 => 2 | 4 => 4 | 171 => 314 | 0 => 0 | 53 => 146 | 37 => 23 | 5 => 5 | 173 => 316 | 212 => 323 | 51 => 142 | 20 => 20 | 213 => 324 | 46 => 165 | 232 => 325 | 233 => 326 | n => n, fun | 17 => 5 | 18 => 6 | 19 => 7 | n => n⟩
theorem Tryz.lays171 : Go.Proofs.Lays.n171 Tryz.prog Tryz.lays171_ren := {
 mixed := by kernel_rfl
 f129 := Tryz.func164.trans (congrArg some (by kernel_rfl))
 f171 := Tryz.func178.trans (congrArg some (by kernel_rfl))
 f243 := Tryz.func210.trans (congrArg some (by kernel_rfl))
 f246 := Tryz.func230.trans (congrArg some (by kernel_rfl))
 f283 := Tryz.func240.trans (congrArg some (by kernel_rfl))
 f284 := Tryz.func241.trans (congrArg some (by kernel_rfl))
 f285 := Tryz.func242.trans (congrArg some (by kernel_rfl))
 f286 := Tryz.func243.trans (congrArg some (by kernel_rfl))
 f317 := Tryz.func248.trans (congrArg some (by kernel_rfl))
 f318 := Tryz.func249.trans (congrArg some (by kernel_rfl))
 f319 := Tryz.func250.trans (congrArg some (by kernel_rfl))
 f320 := Tryz.func251.trans (congrArg some (by kernel_rfl))
 f337 := Tryz.func255.trans (congrArg some (by kernel_rfl))
 f338 := Tryz.func256.trans (congrArg some (by kernel_rfl))
 t0 := Tryz.underlying0
 a0 := Tryz.isAgg0
 z0 := Tryz.sizeOf0
 v0 := Tryz.zeroValue0
 t2 := Tryz.underlying2
 a2 := Tryz.isAgg2
 z2 := Tryz.sizeOf2
 v2 := Tryz.zeroValue2
 t3 := Tryz.underlying3
 a3 := Tryz.isAgg3
 z3 := Tryz.sizeOf3
 v3 := Tryz.zeroValue3
 t4 := Tryz.underlying4
 a4 := Tryz.isAgg4
 z4 := Tryz.sizeOf4
 v4 := Tryz.zeroValue4
 t5 := Tryz.underlying5
 a5 := Tryz.isAgg5
 z5 := Tryz.sizeOf5
 v5 := Tryz.zeroValue5
 t9 := Tryz.underlying9
 a9 := Tryz.isAgg9
 z9 := Tryz.sizeOf9
 v9 := Tryz.zeroValue9
 t20 := Tryz.underlying20
 a20 := Tryz.isAgg20
 z20 := Tryz.sizeOf20
 v20 := Tryz.zeroValue20
 t37 := Tryz.underlying23
 a37 := Tryz.isAgg23
 z37 := Tryz.sizeOf23
 v37 := Tryz.zeroValue23
 t46 := Tryz.underlying165
 a46 := Tryz.isAgg165
 z46 := Tryz.sizeOf165
 v46 := Tryz.zeroValue165
 t51 := Tryz.underlying142
 a51 := Tryz.isAgg142
 z51 := Tryz.sizeOf142
 v51 := Tryz.zeroValue142
 t53 := Tryz.underlying146
 a53 := Tryz.isAgg146
 z53 := Tryz.sizeOf146
 v53 := Tryz.zeroValue146
 t171 := Tryz.underlying314
 a171 := Tryz.isAgg314
 z171 := Tryz.sizeOf314
 v171 := Tryz.zeroValue314
 t173 := Tryz.underlying316
 a173 := Tryz.isAgg316
 z173 := Tryz.sizeOf316
 v173 := Tryz.zeroValue316
 t212 := Tryz.underlying323
 a212 := Tryz.isAgg323
 z212 := Tryz.sizeOf323
 v212 := Tryz.zeroValue323
 t213 := Tryz.underlying324
 a213 := Tryz.isAgg324
 z213 := Tryz.sizeOf324
 t232 := Tryz.underlying325
 a232 := Tryz.isAgg325
 z232 := Tryz.sizeOf325
 v232 := Tryz.zeroValue325
 t233 := Tryz.underlying326
 a233 := Tryz.isAgg326
 z233 := Tryz.sizeOf326
 v233 := Tryz.zeroValue326
 g17 := by kernel_rfl
 g18 := by kernel_rfl
 g19 := by kernel_rfl }
open Go.RowKit Go.Sort Go.Lib in
theorem Tryz.strconv_Itoa_small (i : Nat) (hi : i < 100) (w : World) :
 Calls Tryz.prog 178 #[.int .i64 i] w fun e w' => e = .returned (.string ⟨(Lib.decDigits i).toArray⟩) ∧ w' = w := Any.strconv_Itoa_small Tryz.lays171 i hi w
def Tryz.lays143_ren : Go.Shelf.Ren := ⟨fun | 143 => 136 | 219 => 190 | 217 => 216 | 225 => 217 | 224 => 218 | 267 => 219 | 266 => 233 | 314 => 234 | n => n, fun | 9 => 9 | 3 => 3 | 4 => 4 | 5 => 5 | 46 => 165 | 146 => 306 | 51 => 142 | n => n, fun | 1 => 0 | n => n⟩
theorem Tryz.lays143 : Go.Proofs.Lays.n143 Tryz.prog Tryz.lays143_ren := {
 mixed := by kernel_rfl
 f143 := Tryz.func136.trans (congrArg some (by kernel_rfl))
 f217 := Tryz.func216.trans (congrArg some (by kernel_rfl))
 f219 := Tryz.func190.trans (congrArg some (by kernel_rfl))
 f224 := Tryz.func218.trans (congrArg some (by kernel_rfl))
 f225 := Tryz.func217.trans (congrArg some (by kernel_rfl))
 f266 := Tryz.func233.trans (congrArg some (by kernel_rfl))
 f267 := Tryz.func219.trans (congrArg some (by kernel_rfl))
 f314 := Tryz.func234.trans (congrArg some (by kernel_rfl))
 t3 := Tryz.underlying3
 a3 := Tryz.isAgg3
 z3 := Tryz.sizeOf3
 v3 := Tryz.zeroValue3
 t4 := Tryz.underlying4
 a4 := Tryz.isAgg4
 z4 := Tryz.sizeOf4
 v4 := Tryz.zeroValue4
 t5 := Tryz.underlying5
 a5 := Tryz.isAgg5
 z5 := Tryz.sizeOf5
 v5 := Tryz.zeroValue5
 t9 := Tryz.underlying9
 a9 := Tryz.isAgg9
 z9 := Tryz.sizeOf9
 v9 := Tryz.zeroValue9
 t46 := Tryz.underlying165
 a46 := Tryz.isAgg165
 z46 := Tryz.sizeOf165
 v46 := Tryz.zeroValue165
 t51 := Tryz.underlying142
 a51 := Tryz.isAgg142
 z51 := Tryz.sizeOf142
 v51 := Tryz.zeroValue142
 t146 := Tryz.underlying306
 a146 := Tryz.isAgg306
 z146 := Tryz.sizeOf306
 v146 := Tryz.zeroValue306
 g1 := by kernel_rfl }
open Go.RowKit Go.Lib in
theorem Tryz.strings_Index_one (s : ByteArray) (c : UInt8) (w : World) :
 Calls Tryz.prog 136 #[.string s, .string ⟨#[c]⟩] w fun e w' => e = .returned (.int .i64 (Lib.indexByte s.data.toList c)) ∧ w' = w := Any.strings_Index_one Tryz.lays143 s c w
def Tryz.lays138_ren : Go.Shelf.Ren := ⟨fun | 138 => 135 | 195 => 188 | 218 => 189 | 143 => 136 | 219 => 190 | 217 => 216 | 225 => 217 | 224 => 218 | 267 => 219 | 266 => 233 | 314 => 234 | n => n, fun | 9 => 9 | 3 => 3 | 4 => 4 | 5 => 5 | 0 => 0 | 46 => 165 | 146 => 306 | 51 => 142 | n => n, fun | 1 => 0 | n => n⟩
theorem Tryz.lays138 : Go.Proofs.Lays.n138 Tryz.prog Tryz.lays138_ren := {
 mixed := by kernel_rfl
 f138 := Tryz.func135.trans (congrArg some (by kernel_rfl))
 f143 := Tryz.func136.trans (congrArg some (by kernel_rfl))
 f195 := Tryz.func188.trans (congrArg some (by kernel_rfl))
 f217 := Tryz.func216.trans (congrArg some (by kernel_rfl))
 f218 := Tryz.func189.trans (congrArg some (by kernel_rfl))
 f219 := Tryz.func190.trans (congrArg some (by kernel_rfl))
 f224 := Tryz.func218.trans (congrArg some (by kernel_rfl))
 f225 := Tryz.func217.trans (congrArg some (by kernel_rfl))
 f266 := Tryz.func233.trans (congrArg some (by kernel_rfl))
 f267 := Tryz.func219.trans (congrArg some (by kernel_rfl))
 f314 := Tryz.func234.trans (congrArg some (by kernel_rfl))
 t0 := Tryz.underlying0
 a0 := Tryz.isAgg0
 z0 := Tryz.sizeOf0
 v0 := Tryz.zeroValue0
 t3 := Tryz.underlying3
 a3 := Tryz.isAgg3
 z3 := Tryz.sizeOf3
 v3 := Tryz.zeroValue3
 t4 := Tryz.underlying4
 a4 := Tryz.isAgg4
 z4 := Tryz.sizeOf4
 v4 := Tryz.zeroValue4
 t5 := Tryz.underlying5
 a5 := Tryz.isAgg5
 z5 := Tryz.sizeOf5
 v5 := Tryz.zeroValue5
 t9 := Tryz.underlying9
 a9 := Tryz.isAgg9
 z9 := Tryz.sizeOf9
 v9 := Tryz.zeroValue9
 t46 := Tryz.underlying165
 a46 := Tryz.isAgg165
 z46 := Tryz.sizeOf165
 v46 := Tryz.zeroValue165
 t51 := Tryz.underlying142
 a51 := Tryz.isAgg142
 z51 := Tryz.sizeOf142
 v51 := Tryz.zeroValue142
 t146 := Tryz.underlying306
 a146 := Tryz.isAgg306
 z146 := Tryz.sizeOf306
 v146 := Tryz.zeroValue306
 g1 := by kernel_rfl }
open Go.RowKit Go.Lib in
theorem Tryz.strings_Count_one (s : ByteArray) (c : UInt8) (w : World) :
 Calls Tryz.prog 135 #[.string s, .string ⟨#[c]⟩] w fun e w' => e = .returned (.int .i64 (Lib.countByte s.data.toList c)) ∧ w' = w := Any.strings_Count_one Tryz.lays138 s c w
def Tryz.lays99_ren : Go.Shelf.Ren := ⟨fun | 99 => 94 | 206 => 138 | n => n, fun | 9 => 9 | 4 => 4 | 3 => 3 | n => n, fun | n => n⟩
theorem Tryz.lays99 : Go.Proofs.Lays.n99 Tryz.prog Tryz.lays99_ren := {
 mixed := by kernel_rfl
 f99 := Tryz.func94.trans (congrArg some (by kernel_rfl))
 f206 := Tryz.func138.trans (congrArg some (by kernel_rfl))
 t3 := Tryz.underlying3
 a3 := Tryz.isAgg3
 z3 := Tryz.sizeOf3
 v3 := Tryz.zeroValue3
 t4 := Tryz.underlying4
 a4 := Tryz.isAgg4
 z4 := Tryz.sizeOf4
 v4 := Tryz.zeroValue4
 t9 := Tryz.underlying9
 a9 := Tryz.isAgg9
 z9 := Tryz.sizeOf9
 v9 := Tryz.zeroValue9 }
open Go.RowKit Go.Lib in
theorem Tryz.strings_HasPrefix (s p : ByteArray) (w : World) :
 Calls Tryz.prog 94 #[.string s, .string p] w fun e w' => e = .returned (.bool (Lib.hasPrefix s.data.toList p.data.toList)) ∧ w' = w := Any.strings_HasPrefix Tryz.lays99 s p w
def Tryz.lays100_ren : Go.Shelf.Ren := ⟨fun | 100 => 220 | 207 => 235 | n => n, fun | 9 => 9 | 4 => 4 | 3 => 3 | n => n, fun | n => n⟩
theorem Tryz.lays100 : Go.Proofs.Lays.n100 Tryz.prog Tryz.lays100_ren := {
 mixed := by kernel_rfl
 f100 := Tryz.func220.trans (congrArg some (by kernel_rfl))
 f207 := Tryz.func235.trans (congrArg some (by kernel_rfl))
 t3 := Tryz.underlying3
 a3 := Tryz.isAgg3
 z3 := Tryz.sizeOf3
 v3 := Tryz.zeroValue3
 t4 := Tryz.underlying4
 a4 := Tryz.isAgg4
 z4 := Tryz.sizeOf4
 v4 := Tryz.zeroValue4
 t9 := Tryz.underlying9
 a9 := Tryz.isAgg9
 z9 := Tryz.sizeOf9
 v9 := Tryz.zeroValue9 }
open Go.RowKit Go.Lib in
theorem Tryz.strings_HasSuffix (s p : ByteArray) (w : World) (hs : s.size ≤ 9223372036854775807) :
 Calls Tryz.prog 220 #[.string s, .string p] w fun e w' => e = .returned (.bool (Lib.hasSuffix s.data.toList p.data.toList)) ∧ w' = w := Any.strings_HasSuffix Tryz.lays100 s p w hs
def Tryz.lays221_ren : Go.Shelf.Ren := ⟨fun | 221 => 92 | 268 => 134 | 138 => 135 | 143 => 136 | 195 => 188 | 197 => 152 | 218 => 189 | 219 => 190 | 260 => 200 | 217 => 216 | 225 => 217 | 224 => 218 | 267 => 219 | 266 => 233 | 314 => 234 | n => n, fun | 9 => 9 | 3 => 3 | 31 => 60 | 4 => 4 | 0 => 0 | 105 => 238 | 21 => 21 | 5 => 5 | 46 => 165 | 119 => 288 | 139 => 291 | 138 => 290 | 146 => 306 | 51 => 142 | n => n, fun | 1 => 0 | 3 => 1 | 4 => 2 | n => n⟩
theorem Tryz.lays221 : Go.Proofs.Lays.n221 Tryz.prog Tryz.lays221_ren := {
 mixed := by kernel_rfl
 f138 := Tryz.func135.trans (congrArg some (by kernel_rfl))
 f143 := Tryz.func136.trans (congrArg some (by kernel_rfl))
 f195 := Tryz.func188.trans (congrArg some (by kernel_rfl))
 f197 := Tryz.func152.trans (congrArg some (by kernel_rfl))
 f217 := Tryz.func216.trans (congrArg some (by kernel_rfl))
 f218 := Tryz.func189.trans (congrArg some (by kernel_rfl))
 f219 := Tryz.func190.trans (congrArg some (by kernel_rfl))
 f221 := Tryz.func92.trans (congrArg some (by kernel_rfl))
 f224 := Tryz.func218.trans (congrArg some (by kernel_rfl))
 f225 := Tryz.func217.trans (congrArg some (by kernel_rfl))
 f260 := Tryz.func200.trans (congrArg some (by kernel_rfl))
 f266 := Tryz.func233.trans (congrArg some (by kernel_rfl))
 f267 := Tryz.func219.trans (congrArg some (by kernel_rfl))
 f268 := Tryz.func134.trans (congrArg some (by kernel_rfl))
 f314 := Tryz.func234.trans (congrArg some (by kernel_rfl))
 t0 := Tryz.underlying0
 a0 := Tryz.isAgg0
 z0 := Tryz.sizeOf0
 v0 := Tryz.zeroValue0
 t3 := Tryz.underlying3
 a3 := Tryz.isAgg3
 z3 := Tryz.sizeOf3
 v3 := Tryz.zeroValue3
 t4 := Tryz.underlying4
 a4 := Tryz.isAgg4
 z4 := Tryz.sizeOf4
 v4 := Tryz.zeroValue4
 t5 := Tryz.underlying5
 a5 := Tryz.isAgg5
 z5 := Tryz.sizeOf5
 v5 := Tryz.zeroValue5
 t9 := Tryz.underlying9
 a9 := Tryz.isAgg9
 z9 := Tryz.sizeOf9
 v9 := Tryz.zeroValue9
 t21 := Tryz.underlying21
 a21 := Tryz.isAgg21
 z21 := Tryz.sizeOf21
 v21 := Tryz.zeroValue21
 t31 := Tryz.underlying60
 a31 := Tryz.isAgg60
 z31 := Tryz.sizeOf60
 v31 := Tryz.zeroValue60
 t46 := Tryz.underlying165
 a46 := Tryz.isAgg165
 z46 := Tryz.sizeOf165
 v46 := Tryz.zeroValue165
 t51 := Tryz.underlying142
 a51 := Tryz.isAgg142
 z51 := Tryz.sizeOf142
 v51 := Tryz.zeroValue142
 t105 := Tryz.underlying238
 a105 := Tryz.isAgg238
 z105 := Tryz.sizeOf238
 v105 := Tryz.zeroValue238
 t119 := Tryz.underlying288
 a119 := Tryz.isAgg288
 z119 := Tryz.sizeOf288
 t138 := Tryz.underlying290
 a138 := Tryz.isAgg290
 z138 := Tryz.sizeOf290
 v138 := Tryz.zeroValue290
 t139 := Tryz.underlying291
 a139 := Tryz.isAgg291
 z139 := Tryz.sizeOf291
 v139 := Tryz.zeroValue291
 t146 := Tryz.underlying306
 a146 := Tryz.isAgg306
 z146 := Tryz.sizeOf306
 v146 := Tryz.zeroValue306
 g1 := by kernel_rfl
 g3 := by kernel_rfl
 g4 := by kernel_rfl }
end Go.Proofs
end
section
open Go.RowKit
namespace Go.Proofs.YtfflmmbhpchloaaGreatDoor
theorem kwp_named {P : Program} {c : Code} {Q : Exit → Act → World → Prop} {a : Act} {X : World} (h : ∀ W', W' = X → Code.wp P c Q a W') : Code.wp P c Q a X := h X rfl
theorem binOp_string_gtr (t : TypeId) (a b : ByteArray) : binOp .gtr t (.string a) (.string b) = pure (.bool (!(Op.bytesLess a.toList b.toList || (a.toList == b.toList)))) := by simp [binOp, Op.stringOp]
attribute [local go_sem] binOp_string_gtr
def ltS (a b : ByteArray) : Bool := Op.bytesLess a.toList b.toList
def cmpS (a b : ByteArray) : Int := if ltS a b then -1 else if a.toList == b.toList then 0 else 1
def or3 (x y z : Int) : Int := if x ≠ 0 then x else if y ≠ 0 then y else z
def lessB (p n : ByteArray) (k : Int) (p' n' : ByteArray) (k' : Int) : Bool := decide (or3 (cmpS n n') (cmpS p p') (Lib.compareInt k k') < 0)

theorem khide {p : Prop} (h : p) : Hid p := h
theorem numB_size (n : Nat) : (numB n).size ≤ 2 := by unfold numB; split <;> exact of_decide_eq_true rfl
theorem powerWord_any {n : Nat} (h2 : 2 ≤ n) (h15 : n < 16) (w : World) : Calls Tryz.prog 143 #[.int .i64 (n : Int)] w fun e w' => e = .returned (.string (pwB n)) ∧ w = w' := by
 by_cases e2 : n = 2
 ·subst e2
  go_enter Tryz.func143, Tryz.ntmps143
  go_wp2
  go_ret
  exact ⟨rfl, rfl⟩
 by_cases e3 : n = 3
 ·subst e3
  go_enter Tryz.func143, Tryz.ntmps143
  go_wp2
  go_ret
  exact ⟨rfl, rfl⟩
 ·have d2 : ((n : Int) == 2) = false := by rw [beq_eq_false_iff_ne]; omega
  have d3 : ((n : Int) == 3) = false := by rw [beq_eq_false_iff_ne]; omega
  obtain ⟨t, ht⟩ : ∃ t, t = numB n := ⟨_, rfl⟩
  have CI : Hid (∀ W : World, Calls Tryz.prog 178 #[.int .i64 (n : Int)] W fun e w' => e = .returned (.string t) ∧ W = w') := fun W => (Tryz.strconv_Itoa_small n (by omega) W).mono fun e w' ⟨h1, h3⟩ => ⟨by rw [h1, decDigits_num (by omega), ht], h3.symm⟩
  have hs : t.size ≤ 2 := by rw [ht]; exact numB_size n
  have HV : Hid (pwB n = powB ++ t) := by unfold Hid pwB; rw [if_neg e2, if_neg e3, ht]
  clear ht e2 e3 h2 h15
  go_enter Tryz.func143, Tryz.ntmps143
  go_wp2_with (first | (go_at_call 178; (with_reducible refine (CI.out _).mono ?_); rintro e w1 ⟨rfl, rfl⟩) | fail)
  go_ret
  exact ⟨by rw [HV.out]; rfl, rfl⟩
def RetII (W : World) (a b : Int) (e : Ending) (w' : World) : Prop := e = .returned (.tuple #[.int .i64 a, .int .i64 b]) ∧ Bel W w'
def leadP : List ByteArray → Nat × Nat
 | [] => (1, 0)
 | s :: _ => if powOf s = 0 then (1, 0) else (powOf s, 1)
theorem bel_drewN {w W : World} {q : Nat} (h : Hid (W = w.drewN q)) : Bel w W := by rw [h.out]; exact ybelow_drewN (Below.refl _ _) q
theorem lead_any {A : Option Addr} {n c : Nat} {xs : List ByteArray} {w : World} (h : Ss w A xs) (hn : n = xs.length) : Calls Tryz.prog 192 #[.slice A n c] w (RetII w ((leadP xs).1 : Int) ((leadP xs).2 : Int)) := by
 have CP : Hid (∀ (n : Nat) (W : World), 2 ≤ n → n < 16 → Calls Tryz.prog 143 #[.int .i64 (n : Int)] W fun e w' => e = .returned (.string (pwB n)) ∧ W = w') := fun n W h2 h15 => powerWord_any h2 h15 W
 cases xs with
 | nil =>
   subst hn
   clear h
   go_enter Tryz.func192, Tryz.ntmps192
   go_wp2
   go_ret2
   exact ⟨rfl, Bel.refl _⟩
 | cons s ys =>
   obtain ⟨ad, rfl, hb, hcell0⟩ := h.out.at_ (k := 0) (by simp)
   rw [show (s :: ys)[0] = s from rfl, show ad.add 0 = ad by simp [Addr.add]] at hcell0
   have hn0 : 0 < n := by rw [hn]; simp
   have d1 : ((n : Int) == 0) = false := by rw [beq_eq_false_iff_ne]; omega
   have d2 : (0 : Int) < (n : Int) := by omega
   clear hn h
   go_enter Tryz.func192, Tryz.ntmps192
   go_wp2
   go_loopw [4] (fun iv wr => ∃ k q : Nat, 2 ≤ k ∧ k ≤ 16 ∧ iv = .int .i64 (k : Int) ∧ Hid (wr = w.drewN q) ∧ Hid (∀ m, m < k → 2 ≤ m → s ≠ pwB m)) (fun iv _ => 16 - (intOf iv).toNat)
   case atStart => exact ⟨2, 0, by omega, by omega, rfl, rfl, fun m h1 h2 => by omega⟩
   case round =>
    obtain ⟨k, q, hk2, hk, rfl, HQ, HM⟩ := hrel
    by_cases hlt : k < 16
    ·have hcell : wr.cell? ad = some (.string s) := by rw [HQ.out]; exact hcell0
     have d3 : decide ((k : Int) ≤ 15) = true := decide_eq_true (by omega)
     obtain ⟨t, ht⟩ : ∃ t, t = pwB k := ⟨_, rfl⟩
     have CQ : Hid (∀ W : World, Calls Tryz.prog 143 #[.int .i64 (k : Int)] W fun e w' => e = .returned (.string t) ∧ w' = W) := fun W => (ht ▸ CP.out k W hk2 hlt).mono fun e w' ⟨h1, h3⟩ => ⟨h1, h3.symm⟩
     have HT := khide ht
     clear ht
     by_cases he : s = t
     ·have HE : Hid (powOf s = k) := by unfold Hid; rw [he, HT.out]; exact powOf_pw k hlt hk2
      have e2 : (s.toList == t.toList) = true := by rw [he]; simp
      have HK2 := khide hk2
      clear he
      go_wp2_with fail
      go_quiet (first | (go_at_call 143; exact Calls.quiet_of_same (CQ.out _)) | fail)
      go_wp2
      go_ret2
      obtain ⟨q2, hq2⟩ := ydrew_more HQ
      refine ⟨?_, bel_drewN hq2⟩
      have hne : ¬ powOf s = 0 := by rw [HE.out]; have := HK2.out; omega
      simp only [leadP]
      rw [if_neg hne, HE.out]; rfl
     ·have e2 : (s.toList == t.toList) = false := by
       rw [beq_eq_false_iff_ne]; intro e3; rw [Lib.toList_data, Lib.toList_data] at e3
       exact he (ByteArray.ext (Array.ext' e3))
      have HE := khide he
      clear he
      go_wp2_with fail
      go_quiet (first | (go_at_call 143; exact Calls.quiet_of_same (CQ.out _)) | fail)
      go_wp2
      go_roundw
      case rel =>
       obtain ⟨q2, hq2⟩ := ydrew_more HQ
       refine ⟨k + 1, q2, by omega, by omega, by go_num, hq2, fun m h1 h2 => ?_⟩
       rcases Nat.lt_or_ge m k with h3 | h3
       ·exact HM.out m h3 h2
       ·obtain rfl : m = k := by omega
        rw [← HT.out]; exact HE.out
      case measure => simp [intOf]; omega
    ·obtain rfl : k = 16 := by omega
     go_wp2
     go_ret2
     refine ⟨?_, bel_drewN HQ⟩
     simp only [leadP]
     rw [if_pos (powOf_no HM.out)]; rfl
theorem toList_inj {a b : ByteArray} (h : a.toList = b.toList) : a = b := by
 rw [Lib.toList_data, Lib.toList_data] at h
 exact ByteArray.ext (Array.ext' h)
theorem str_ne {a b : ByteArray} (h : a ≠ b) : (a.toList == b.toList) = false := by
 rw [beq_eq_false_iff_ne]; exact fun e => h (toList_inj e)
theorem str_lit {a b : ByteArray} {l : List UInt8} (h : a ≠ b) (hl : b.data.toList = l) : (a.toList == l) = false := by
 rw [← hl, ← Lib.toList_data]; exact str_ne h
theorem trim_h {s : ByteArray} (hs : s.size ≤ 9223372036854775807) (w : World) : Calls Tryz.prog 245 #[.string s, .string ⟨#[48, 49, 50, 51, 52, 53, 54, 55, 56, 57]⟩] w fun e w' => e = .returned (.string ⟨(Lib.trimS s.data.toList digitSet).toArray⟩) ∧ Bel w w' :=
 Any.strings_Trim_ascii Tryz.lays160 (fun w => by kernel_rfl) (by kernel_rfl) s ⟨#[48, 49, 50, 51, 52, 53, 54, 55, 56, 57]⟩ w hs (by decide) (fun j b hb => by
  have hm := List.mem_of_getElem? hb
  have : ∀ b ∈ digitSet, b.toNat < 128 := by decide
  exact this b hm)
theorem isDigits_h {s : ByteArray} {r : Bool} (hs : s.size ≤ 9223372036854775807) (hr : digitsB s.data.toList = r) (w : World) : Calls Tryz.prog 236 #[.string s] w (RetB w r) := by
 cases he : s.toList.isEmpty with
 | true =>
   have HV : Hid (false = r) := by
    unfold Hid; rw [← hr]; unfold digitsB
    rw [Lib.toList_data] at he
    rw [he]; rfl
   clear hr hs
   go_enter Tryz.func236, Tryz.ntmps236
   go_wp2
   go_ret
   exact ⟨ybool HV.out, Bel.refl _⟩
 | false =>
   obtain ⟨t, ht⟩ : ∃ t : ByteArray, t = ⟨(Lib.trimS s.data.toList digitSet).toArray⟩ := ⟨_, rfl⟩
   have CT : Hid (∀ W : World, Calls Tryz.prog 245 #[.string s, .string ⟨#[48, 49, 50, 51, 52, 53, 54, 55, 56, 57]⟩] W fun e w' => e = .returned (.string t) ∧ Bel W w') := fun W => ht ▸ trim_h hs W
   have hb : t.toList.isEmpty = r := by
    rw [ht, Lib.toList_data]
    show (Lib.trimS s.data.toList digitSet).isEmpty = r
    rw [trim_digits, ← hr]; unfold digitsB
    rw [Lib.toList_data] at he
    rw [he]; rfl
   clear ht hs hr
   go_enter Tryz.func236, Tryz.ntmps236
   go_wp2_with (first | (go_at_call 245; (with_reducible refine (CT.out _).mono ?_); rintro e w1 ⟨rfl, HB⟩) | fail)
   go_ret
   exact ⟨rfl, HB⟩
theorem resB_lit {s : ByteArray} (h : s = perB ∨ s = andB ∨ s = sqB ∨ s = cuB) : resB s = true := by
 rcases h with rfl | rfl | rfl | rfl <;> decide +kernel
theorem isReserved_h {s : ByteArray} {r : Bool} (hs : s.size ≤ 9223372036854775807) (hr : resB s = r) (w : World) : Calls Tryz.prog 224 #[.string s] w (RetB w r) := by
 by_cases h1 : s = perB ∨ s = andB ∨ s = sqB ∨ s = cuB
 ·rw [resB_lit h1] at hr
  subst hr
  clear hs
  rcases h1 with rfl | rfl | rfl | rfl
  all_goals
   (first | unfold perB | unfold andB | unfold sqB | unfold cuB)
   go_enter Tryz.func224, Tryz.ntmps224
   go_wp2
   go_ret
   exact ⟨rfl, Bel.refl _⟩
 ·have n1 : s ≠ perB := fun h => h1 (.inl h)
  have n2 : s ≠ andB := fun h => h1 (.inr (.inl h))
  have n3 : s ≠ sqB := fun h => h1 (.inr (.inr (.inl h)))
  have n4 : s ≠ cuB := fun h => h1 (.inr (.inr (.inr h)))
  have d1 : (s.toList == [112, 101, 114]) = false := str_lit n1 rfl
  have d2 : (s.toList == [97, 110, 100]) = false := str_lit n2 rfl
  have d3 : (s.toList == [115, 113, 117, 97, 114, 101]) = false := str_lit n3 rfl
  have d4 : (s.toList == [99, 117, 98, 105, 99]) = false := str_lit n4 rfl
  obtain ⟨b1, hb1⟩ : ∃ b, digitsB s.data.toList = b := ⟨_, rfl⟩
  obtain ⟨b2, hb2⟩ : ∃ b, Lib.hasPrefix s.data.toList powB.data.toList = b := ⟨_, rfl⟩
  obtain ⟨t, ht⟩ : ∃ t : ByteArray, t = ⟨(Lib.trimPrefix s.data.toList powB.data.toList).toArray⟩ := ⟨_, rfl⟩
  obtain ⟨b3, hb3⟩ : ∃ b, digitsB t.data.toList = b := ⟨_, rfl⟩
  have hts : t.size ≤ 9223372036854775807 := by
   rw [ht, Lib.size_eq]
   show (Lib.trimPrefix s.data.toList powB.data.toList).length ≤ _
   rw [Lib.size_eq] at hs
   unfold Lib.trimPrefix
   split
   ·rw [List.length_drop]; omega
   ·exact hs
  have HV : Hid ((b1 || (b2 && b3)) = r) := by
   unfold Hid; rw [← hr]; unfold resB
   rw [decide_eq_false n1, decide_eq_false n2, decide_eq_false n3, decide_eq_false n4, hb1, hb2]
   cases b2 with
   | false => rfl
   | true =>
     have e : t.data.toList = s.data.toList.drop 3 := by
      rw [ht]
      show Lib.trimPrefix s.data.toList powB.data.toList = _
      unfold Lib.trimPrefix
      rw [hb2]; rfl
     rw [← e, hb3]; rfl
  have CC : Hid (∀ W : World, Calls Tryz.prog 232 #[.string s, .string ⟨#[112, 111, 119]⟩] W fun e w' => e = .returned (.tuple #[.string t, .bool b2]) ∧ W = w') := fun W => (Tryz.strings_CutPrefix s powB W).mono fun e w' ⟨h1, h3⟩ => ⟨by rw [h1, ht, hb2], h3.symm⟩
  have CD1 : Hid (∀ W : World, Calls Tryz.prog 236 #[.string s] W (RetB W b1)) := fun W => isDigits_h hs hb1 W
  have CD2 : Hid (∀ W : World, Calls Tryz.prog 236 #[.string t] W (RetB W b3)) := fun W => isDigits_h hts hb3 W
  clear hb1 hb2 hb3 ht hts hs hr n1 n2 n3 n4 h1
  cases b1 <;> cases b2
  all_goals
   go_enter Tryz.func224, Tryz.ntmps224
   go_wp2_with (first | (go_at_call 232; (with_reducible refine (CC.out _).mono ?_); rintro e w1 ⟨rfl, rfl⟩) | (go_at_call 236; (with_reducible refine (CD1.out _).mono ?_); rintro e w2 ⟨rfl, HB⟩) | (go_at_call 236; (with_reducible refine (CD2.out _).mono ?_); rintro e w3 ⟨rfl, HB2⟩; replace HB := HB.up HB2.hid) | fail)
   go_ret
   exact ⟨ybool HV.out, HB⟩
theorem skeyed : Go.Maps.Keyed Tryz.prog 9 := Go.Maps.string_keyed Tryz.underlying9
def slit (s : ByteArray) : Lit := .string s.data.toList
theorem skeyOf {s : ByteArray} (h : s.size ≤ 2000000) : keyOf Tryz.prog 9 (.string s) = some (slit s) := Go.WideMaps.keyOf_string_mk Tryz.underlying9 (by unfold maxLen; omega)
theorem slit_inj {a b : ByteArray} (h : slit a = slit b) : a = b := by
 unfold slit at h
 injection h with h
 exact ByteArray.ext (Array.ext' h)
def SetIs (w : World) (b : Nat) (xs : List ByteArray) : Prop := ∃ D : DataW Unit, w.ownsMap Tryz.prog 9 unitElem b xs.length D ∧ Maps.IsMap D ∧ ∀ s : ByteArray, Maps.has D (slit s) = hasB xs s
theorem setIs_new (w : World) : SetIs (w.alloc (.map #[] 0)) w.heap.size [] :=
 ⟨.map [], World.ownsMap_made _ _ _ _, Maps.isMap_empty, fun _ => rfl⟩
theorem unit_zero (w : World) : (zeroValue 296).run Tryz.prog w = .ok (.agg #[]) w := by kernel_rfl
theorem SetIs.look {w : World} {b : Nat} {xs : List ByteArray} {s : ByteArray} (h : SetIs w b xs) (hs : s.size ≤ 2000000) : (Instr.lookup 295 (.map (some b)) (.string s) true).run Tryz.prog w = .ok (.tuple #[.agg #[], .bool (hasB xs s)]) w := by
 obtain ⟨D, h1, _, h3⟩ := h
 obtain ⟨v, ps, hrun, hv⟩ := h1.look_ok skeyed Tryz.underlying295 (unit_zero _) unitElem_mk (skeyOf hs)
 obtain ⟨rfl, _⟩ := unitElem_inv hv
 rw [hrun, h3]
theorem hasB_snoc (xs : List ByteArray) (x y : ByteArray) : hasB (xs ++ [x]) y = (hasB xs y || decide (x = y)) := by
 unfold hasB; rw [List.any_append]; simp
theorem SetIs.put {w : World} {b : Nat} {xs : List ByteArray} {s : ByteArray} (h : SetIs w b xs) (hs : s.size ≤ 2000000) (hl : xs.length ≤ 2000000) :
 ∃ w', (Instr.mapUpdate 295 (.map (some b)) (.string s) (.agg #[])).run Tryz.prog w = .ok () w' ∧ SetIs w' b (xs ++ [s]) ∧ w.grownBy w' (some b) := by
 obtain ⟨D, h1, h2, h3⟩ := h
 obtain ⟨w', hr, ho, hg⟩ := h1.update skeyed Tryz.underlying295 (by unfold maxLen; omega) (skeyOf hs) unitElem_mk
 refine ⟨w', hr, ⟨_, by simpa using ho, h2.put _ _, fun c => ?_⟩, hg⟩
 rw [hasB_snoc]
 by_cases e : s = c
 ·subst e
  rw [Maps.has_put_same h2 (skeyed.key (skeyOf hs))]; simp
 ·rw [Maps.has_put_other (fun h5 => e (slit_inj h5).symm), h3, decide_eq_false e, Bool.or_false]
theorem SetIs.lt {w : World} {b : Nat} {xs : List ByteArray} (h : SetIs w b xs) : b < w.heap.size := by
 obtain ⟨D, h1, _⟩ := h; exact h1.lt
theorem SetIs.up {w w' : World} {b : Nat} {xs : List ByteArray} (h : SetIs w b xs) (hb : Hid (Below w.heap.size w w')) : SetIs w' b xs := by
 have e := hb.out.block b h.lt
 obtain ⟨D, ⟨es, clock, h1, F, hs, hD⟩, h2, h3⟩ := h
 exact ⟨D, ⟨es, clock, e.trans h1, F, hs, hD⟩, h2, h3⟩
theorem SetIs.al {w : World} {b : Nat} {xs : List ByteArray} (h : SetIs w b xs) (o : Obj) : SetIs (w.alloc o) b xs := h.up ((Below.refl _ _).alloc (Nat.le_refl _) o)
theorem isGoodList_any {A : Option Addr} {n c : Nat} {xs : List ByteArray} {w : World} (h : Ss w A xs) (hn : n = xs.length) (hl : n ≤ 1000000) (hs : ∀ x ∈ xs, x.size ≤ 2000000) : Calls Tryz.prog 207 #[.slice A n c] w (RetB w (goodL xs)) := by
 have CG := khide wgood_any
 have CR : Hid (∀ (s : ByteArray) (W : World), s.size ≤ 2000000 → Calls Tryz.prog 224 #[.string s] W (RetB W (resB s))) := fun s W h => isReserved_h (by omega) rfl W
 have HN := khide hn
 have HS := khide hs
 have hmm := @run_makeMap Tryz.prog
 clear hn hs
 go_enter Tryz.func207, Tryz.ntmps207
 go_upto_region 3 with fail
 refine kwp_named ?_
 intro W0 hW0
 have HB0 : Bel w W0 := by rw [hW0]; exact (Bel.refl w).al _
 have HT0 : SetIs W0 w.heap.size [] := by rw [hW0]; exact setIs_new w
 obtain ⟨b, hb⟩ : ∃ b, b = w.heap.size := ⟨_, rfl⟩
 rw [← hb] at HT0
 rw [← hb]
 have HBB : Hid (w.heap.size ≤ b) := Nat.le_of_eq hb.symm
 clear hW0 hmm hb
 go_loopw [11] (fun iv wr => ∃ k : Nat, k ≤ n ∧ iv = .int .i64 (k : Int) ∧ Hid (Bel w wr) ∧ Hid (SetIs wr b (xs.take k)) ∧ Hid (goodL (xs.take k) = true)) (fun iv _ => n - (intOf iv).toNat)
 case atStart => exact ⟨0, Nat.zero_le _, rfl, HB0, HT0, goodL_nil⟩
 case round =>
  obtain ⟨k, hk, rfl, HB, HT, HG⟩ := hrel
  by_cases hlt : k < n
  ·have hx : k < xs.length := by rw [← HN.out]; exact hlt
   obtain ⟨ad, rfl, had, hcell⟩ := (h.up HB.out.hid).out.at_ hx
   obtain ⟨x, hxe⟩ : ∃ x, x = xs[k] := ⟨_, rfl⟩
   rw [← hxe] at hcell
   have HX : Hid (x.size ≤ 2000000) := HS.out x (by rw [hxe]; exact List.getElem_mem hx)
   obtain ⟨b1, hb1⟩ : ∃ v, hasB (xs.take k) x = v := ⟨_, rfl⟩
   obtain ⟨b2, hb2⟩ : ∃ v, goodW x.data.toList = v := ⟨_, rfl⟩
   obtain ⟨b3, hb3⟩ : ∃ v, resB x = v := ⟨_, rfl⟩
   have hlook := HT.out.look HX.out
   rw [hb1] at hlook
   have C2 : Hid (∀ W : World, Calls Tryz.prog 56 #[.string x] W fun e w' => e = .returned (.bool b2) ∧ W = w') := fun W => hb2 ▸ CG.out x W
   have C3 : Hid (∀ W : World, Calls Tryz.prog 224 #[.string x] W (RetB W b3)) := fun W => hb3 ▸ CR.out x W HX.out
   have HV : Hid (goodL (xs.take (k + 1)) = ((b2 && !b3) && !b1)) := by
    unfold Hid
    rw [goodL_take hx, HG.out, ← hxe, hb1]
    unfold mayB; rw [hb2, hb3]; rfl
   have HF : Hid (goodL (xs.take (k + 1)) = false → goodL xs = false) := goodL_bad hx
   have HX2 : Hid (xs.take (k + 1) = xs.take k ++ [x]) := by rw [hxe]; exact List.take_succ_eq_append_getElem hx
   have HKL : Hid ((xs.take k).length ≤ 2000000) := by unfold Hid; rw [List.length_take]; omega
   clear hb1 hb2 hb3 hxe hx
   have HB1 : Hid (Bel w (wr.alloc (.cells #[] 296))) := HB.out.al _
   by_cases hgo : b1 = false ∧ b2 = true ∧ b3 = false
   ·obtain ⟨rfl, rfl, rfl⟩ := hgo
    go_upto_region 8 with (first | (go_at_call 56; (with_reducible refine (C2.out _).mono ?_); rintro e w1 ⟨rfl, rfl⟩) | (go_at_call 224; (with_reducible refine (C3.out _).mono ?_); rintro e w2 ⟨rfl, hb2⟩; replace HB1 : Hid (Bel w w2) := HB1.out.up hb2.hid; have HT2 : Hid (SetIs w2 b (xs.take k)) := (HT.out.al _).up hb2.hid; clear hb2 hlook hcell) | fail)
    obtain ⟨W3, hrun, HT3, hgrow⟩ := HT2.out.put HX.out HKL.out
    have HB3 : Hid (Bel w W3) := Below.grown HB1.out hgrow HB1.out.size (fun q e => by injection e with e; have := HBB.out; omega)
    clear HT HT2 hgrow HB1
    go_wp2
    go_roundw
    case rel => exact ⟨k + 1, by omega, by go_num, HB3, by rw [HX2.out]; exact HT3, HV.out⟩
    case measure => simp [intOf]; omega
   ·have HFF : Hid (goodL xs = false) := HF.out (by rw [HV.out]; cases b1 <;> cases b2 <;> cases b3 <;> simp at hgo ⊢)
    cases b1 <;> cases b2 <;> cases b3
    all_goals (try (exfalso; exact hgo ⟨rfl, rfl, rfl⟩))
    all_goals clear hgo
    all_goals go_wp2_with (first | (go_at_call 56; (with_reducible refine (C2.out _).mono ?_); rintro e w1 ⟨rfl, rfl⟩) | (go_at_call 224; (with_reducible refine (C3.out _).mono ?_); rintro e w2 ⟨rfl, hb2⟩; replace HB1 : Hid (Bel w w2) := HB1.out.up hb2.hid) | fail)
    all_goals go_ret
    all_goals exact ⟨ybool HFF.out.symm, HB1.out⟩
  ·obtain rfl : k = n := by omega
   go_wp2
   go_ret
   refine ⟨ybool ?_, HB.out⟩
   have h3 := HG.out
   rw [List.take_of_length_le (by rw [← HN.out]; exact Nat.le_refl _)] at h3
   exact h3.symm
theorem good_any {A B : Option Addr} {n c m d : Nat} {xs ys : List ByteArray} {w : World} (h : Ss w A xs) (hn : n = xs.length) (hl : n ≤ 1000000) (hs : ∀ x ∈ xs, x.size ≤ 2000000) (h' : Ss w B ys) (hm : m = ys.length) (hl' : m ≤ 1000000) (hs' : ∀ x ∈ ys, x.size ≤ 2000000) :
 Calls Tryz.prog 176 #[.agg #[.slice A n c, .slice B m d]] w (RetB w (goodL xs && goodL ys)) := by
 have C1 : Hid (∀ W, Bel w W → Calls Tryz.prog 207 #[.slice A n c] W (RetB W (goodL xs))) := fun W hb => isGoodList_any (h.up hb.hid) hn hl hs
 have C2 : Hid (∀ W, Bel w W → Calls Tryz.prog 207 #[.slice B m d] W (RetB W (goodL ys))) := fun W hb => isGoodList_any (h'.up hb.hid) hm hl' hs'
 obtain ⟨b1, hb1⟩ : ∃ b, goodL xs = b := ⟨_, rfl⟩
 obtain ⟨b2, hb2⟩ : ∃ b, goodL ys = b := ⟨_, rfl⟩
 rw [hb1] at C1
 rw [hb2] at C2
 rw [hb1, hb2]
 clear hb1 hb2 h h' hn hm hl hl' hs hs'
 obtain ⟨W1, hW1⟩ : ∃ X, X = w.alloc (.cells #[.slice A n c, .slice B m d] 62) := ⟨_, rfl⟩
 have HA : At W1 w.heap.size [.slice A n c, .slice B m d] := by rw [hW1]; exact at_new0 _ _ _
 have HB : Bel w W1 := by rw [hW1]; exact (Bel.refl w).al _
 have HW := khide hW1
 clear hW1
 have ha_0 := HA.c0; have ha_1 := HA.c1; have ha_l := HA.lt
 cases b1
 all_goals
  go_enter Tryz.func176, Tryz.ntmps176
  go_upto_region 1 with fail
  rw [← HW.out]
  go_wp2_with (first | (go_at_call 207; (with_reducible refine (C1.out _ HB).mono ?_); rintro e w1 ⟨rfl, hb⟩; replace HA := HA.up hb.hid; replace HB := HB.up hb.hid; clear ha_0 ha_1 ha_l; have ha_0 := HA.c0; have ha_1 := HA.c1; have ha_l := HA.lt) | (go_at_call 207; (with_reducible refine (C2.out _ HB).mono ?_); rintro e w2 ⟨rfl, hb2⟩; replace HB := HB.up hb2.hid) | fail)
  go_ret
  exact ⟨rfl, HB⟩
end Go.Proofs.YtfflmmbhpchloaaGreatDoor
end
