/- Each theorem here says its own conditions. -/
import Derived.Shelf.Strings.Builder1
import Derived.Shelf.Strings.Builder2
import Derived.Shelf.Strings.Prefix
import Derived.Shelf.Strings.SlTrimAscii
import Derived.Shelf.Small.Wraps
import Derived.Test.YtfflmmbhpchloaaGreatDoorGTpwc1
import Derived.Deep.RegionHeld3
import Derived.Deep.CutRange
set_option maxRecDepth 100000
set_option maxHeartbeats 16000000
section
namespace Go.Proofs
open Go.Shelf
def Tryz.lays156_ren:Go.Shelf.Ren:=⟨fun | 156=>38 | 165=>67 | 166=>68 | 169=>69 | 240=>101 | 241=>102 | 276=>145 | 277=>146 | n=>n,fun | 31=>60 | 9=>9 | 3=>3 | 4=>4 | 0=>0 | 20=>20 | 72=>149 | 76=>153 | 70=>147 | 37=>23 | 75=>152 | 127=>185 | 164=>195 | 5=>5 | 80=>29 | n=>n,fun | n=>n⟩
theorem Tryz.lays156:Go.Proofs.Lays.n156 Tryz.prog Tryz.lays156_ren:={
 mixed:=by kernel_rfl
 f156:=Tryz.func38.trans (congrArg some (by kernel_rfl))
 f165:=Tryz.func67.trans (congrArg some (by kernel_rfl))
 f166:=Tryz.func68.trans (congrArg some (by kernel_rfl))
 f169:=Tryz.func69.trans (congrArg some (by kernel_rfl))
 f240:=Tryz.func101.trans (congrArg some (by kernel_rfl))
 f241:=Tryz.func102.trans (congrArg some (by kernel_rfl))
 f276:=Tryz.func145.trans (congrArg some (by kernel_rfl))
 f277:=Tryz.func146.trans (congrArg some (by kernel_rfl))
 t0:=Tryz.underlying0
 a0:=Tryz.isAgg0
 z0:=Tryz.sizeOf0
 v0:=Tryz.zeroValue0
 t3:=Tryz.underlying3
 a3:=Tryz.isAgg3
 z3:=Tryz.sizeOf3
 v3:=Tryz.zeroValue3
 t4:=Tryz.underlying4
 a4:=Tryz.isAgg4
 z4:=Tryz.sizeOf4
 v4:=Tryz.zeroValue4
 t9:=Tryz.underlying9
 a9:=Tryz.isAgg9
 z9:=Tryz.sizeOf9
 v9:=Tryz.zeroValue9
 t20:=Tryz.underlying20
 a20:=Tryz.isAgg20
 z20:=Tryz.sizeOf20
 v20:=Tryz.zeroValue20
 t31:=Tryz.underlying60
 a31:=Tryz.isAgg60
 z31:=Tryz.sizeOf60
 v31:=Tryz.zeroValue60
 t37:=Tryz.underlying23
 a37:=Tryz.isAgg23
 z37:=Tryz.sizeOf23
 v37:=Tryz.zeroValue23
 t70:=Tryz.underlying147
 a70:=Tryz.isAgg147
 z70:=Tryz.sizeOf147
 v70:=Tryz.zeroValue147
 t72:=Tryz.underlying149
 a72:=Tryz.isAgg149
 z72:=Tryz.sizeOf149
 v72:=Tryz.zeroValue149
 t75:=Tryz.underlying152
 a75:=Tryz.isAgg152
 z75:=Tryz.sizeOf152
 v75:=Tryz.zeroValue152
 t76:=Tryz.underlying153
 a76:=Tryz.isAgg153
 z76:=Tryz.sizeOf153
 v76:=Tryz.zeroValue153
 t127:=Tryz.underlying185
 a127:=Tryz.isAgg185
 z127:=Tryz.sizeOf185
 v127:=Tryz.zeroValue185
 t164:=Tryz.underlying195
 a164:=Tryz.isAgg195
 z164:=Tryz.sizeOf195
 v164:=Tryz.zeroValue195 }
theorem Tryz.Builder_Extra_156:Builder.Extra Tryz.prog Tryz.lays156_ren:={
 sizeBuilder:=by kernel_rfl
 liesBuilder:=by kernel_rfl
 t5:=Tryz.underlying5
 a5:=Tryz.isAgg5
 z5:=Tryz.sizeOf5
 v5:=Tryz.zeroValue5
 infoByte:=by kernel_rfl
 cellsByte:=by kernel_rfl
 sizeByte:=by kernel_rfl
 neB5:=by decide }
open Go.RowKit in
theorem Tryz.strings_Join_none (a:Option Addr) (c:Nat) (sep:ByteArray) (w:World) :
 Calls Tryz.prog 38 #[.slice a 0 c,.string sep] w fun e w'=>e = .returned (.string ⟨#[]⟩)∧w'=w:=Any.strings_Join_none Tryz.lays156 Tryz.Builder_Extra_156 a c sep w
open Go.RowKit in
theorem Tryz.strings_Join (bk o c:Nat) (xs:List ByteArray) (sep:ByteArray) (w:World) (hcells:∀ (j:Nat) x,xs[j]? = some x→w.cell? ⟨bk,o + j,none⟩=some (.string x)) (hbk:bk < w.heap.size) (hN:xs.length≤140737488355328) (hcap:xs.length≤c) (hlen:(Lib.join (xs.map (·.data.toList)) sep.data.toList).length≤140737488355328) :
 Calls Tryz.prog 38 #[.slice (some ⟨bk,o,none⟩) xs.length c,.string sep] w fun e w'=>e = .returned (.string ⟨(Lib.join (xs.map (·.data.toList)) sep.data.toList).toArray⟩)∧Below w.heap.size w w':=Any.strings_Join Tryz.lays156 Tryz.Builder_Extra_156 bk o c xs sep w hcells hbk hN hcap hlen
def Tryz.lays160_ren:Go.Shelf.Ren:=⟨fun | 160=>245 | 232=>252 | 231=>105 | 227=>106 | 234=>253 | 233=>107 | 236=>254 | 235=>108 | 228=>151 | 271=>257 | 151=>153 | 197=>152 | 120=>258 | 152=>201 | 260=>200 | 137=>221 | 119=>222 | 224=>218 | 225=>217 | 217=>216 | 266=>233 | n=>n,fun | 9=>9 | 4=>4 | 3=>3 | 5=>5 | 117=>191 | 116=>190 | 0=>0 | 124=>194 | 21=>21 | 105=>238 | 46=>165 | 119=>288 | 139=>291 | 138=>290 | n=>n,fun | 3=>1 | 4=>2 | n=>n⟩
theorem Tryz.lays160:Go.Proofs.Lays.n160 Tryz.prog Tryz.lays160_ren:={
 mixed:=by kernel_rfl
 f119:=Tryz.func222.trans (congrArg some (by kernel_rfl))
 f120:=Tryz.func258.trans (congrArg some (by kernel_rfl))
 f137:=Tryz.func221.trans (congrArg some (by kernel_rfl))
 f151:=Tryz.func153.trans (congrArg some (by kernel_rfl))
 f152:=Tryz.func201.trans (congrArg some (by kernel_rfl))
 f160:=Tryz.func245.trans (congrArg some (by kernel_rfl))
 f197:=Tryz.func152.trans (congrArg some (by kernel_rfl))
 f217:=Tryz.func216.trans (congrArg some (by kernel_rfl))
 f224:=Tryz.func218.trans (congrArg some (by kernel_rfl))
 f225:=Tryz.func217.trans (congrArg some (by kernel_rfl))
 f227:=Tryz.func106.trans (congrArg some (by kernel_rfl))
 f228:=Tryz.func151.trans (congrArg some (by kernel_rfl))
 f231:=Tryz.func105.trans (congrArg some (by kernel_rfl))
 f232:=Tryz.func252.trans (congrArg some (by kernel_rfl))
 f233:=Tryz.func107.trans (congrArg some (by kernel_rfl))
 f234:=Tryz.func253.trans (congrArg some (by kernel_rfl))
 f235:=Tryz.func108.trans (congrArg some (by kernel_rfl))
 f236:=Tryz.func254.trans (congrArg some (by kernel_rfl))
 f260:=Tryz.func200.trans (congrArg some (by kernel_rfl))
 f266:=Tryz.func233.trans (congrArg some (by kernel_rfl))
 f271:=Tryz.func257.trans (congrArg some (by kernel_rfl))
 t0:=Tryz.underlying0
 a0:=Tryz.isAgg0
 z0:=Tryz.sizeOf0
 v0:=Tryz.zeroValue0
 t3:=Tryz.underlying3
 a3:=Tryz.isAgg3
 z3:=Tryz.sizeOf3
 v3:=Tryz.zeroValue3
 t4:=Tryz.underlying4
 a4:=Tryz.isAgg4
 z4:=Tryz.sizeOf4
 v4:=Tryz.zeroValue4
 t5:=Tryz.underlying5
 a5:=Tryz.isAgg5
 z5:=Tryz.sizeOf5
 v5:=Tryz.zeroValue5
 t9:=Tryz.underlying9
 a9:=Tryz.isAgg9
 z9:=Tryz.sizeOf9
 v9:=Tryz.zeroValue9
 t21:=Tryz.underlying21
 a21:=Tryz.isAgg21
 z21:=Tryz.sizeOf21
 v21:=Tryz.zeroValue21
 t46:=Tryz.underlying165
 a46:=Tryz.isAgg165
 z46:=Tryz.sizeOf165
 v46:=Tryz.zeroValue165
 t105:=Tryz.underlying238
 a105:=Tryz.isAgg238
 z105:=Tryz.sizeOf238
 v105:=Tryz.zeroValue238
 t116:=Tryz.underlying190
 a116:=Tryz.isAgg190
 z116:=Tryz.sizeOf190
 t117:=Tryz.underlying191
 a117:=Tryz.isAgg191
 z117:=Tryz.sizeOf191
 v117:=Tryz.zeroValue191
 t119:=Tryz.underlying288
 a119:=Tryz.isAgg288
 z119:=Tryz.sizeOf288
 t124:=Tryz.underlying194
 a124:=Tryz.isAgg194
 z124:=Tryz.sizeOf194
 v124:=Tryz.zeroValue194
 t138:=Tryz.underlying290
 a138:=Tryz.isAgg290
 z138:=Tryz.sizeOf290
 v138:=Tryz.zeroValue290
 t139:=Tryz.underlying291
 a139:=Tryz.isAgg291
 z139:=Tryz.sizeOf291
 v139:=Tryz.zeroValue291
 g3:=by kernel_rfl
 g4:=by kernel_rfl }
def Tryz.lays103_ren:Go.Shelf.Ren:=⟨fun | 103=>232 | 210=>244 | 206=>138 | n=>n,fun | 9=>9 | 4=>4 | 24=>45 | 3=>3 | n=>n,fun | n=>n⟩
theorem Tryz.lays103:Go.Proofs.Lays.n103 Tryz.prog Tryz.lays103_ren:={
 mixed:=by kernel_rfl
 f103:=Tryz.func232.trans (congrArg some (by kernel_rfl))
 f206:=Tryz.func138.trans (congrArg some (by kernel_rfl))
 f210:=Tryz.func244.trans (congrArg some (by kernel_rfl))
 t3:=Tryz.underlying3
 a3:=Tryz.isAgg3
 z3:=Tryz.sizeOf3
 v3:=Tryz.zeroValue3
 t4:=Tryz.underlying4
 a4:=Tryz.isAgg4
 z4:=Tryz.sizeOf4
 v4:=Tryz.zeroValue4
 t9:=Tryz.underlying9
 a9:=Tryz.isAgg9
 z9:=Tryz.sizeOf9
 v9:=Tryz.zeroValue9
 t24:=Tryz.underlying45
 a24:=Tryz.isAgg45
 z24:=Tryz.sizeOf45
 v24:=Tryz.zeroValue45 }
open Go.RowKit in
theorem Tryz.strings_CutPrefix (s p:ByteArray) (w:World) :
 Calls Tryz.prog 232 #[.string s,.string p] w fun e w'=>e = .returned (.tuple #[.string ⟨(Lib.trimPrefix s.data.toList p.data.toList).toArray⟩,.bool (Lib.hasPrefix s.data.toList p.data.toList)])∧w'=w:=Any.strings_CutPrefix Tryz.lays103 s p w
def Tryz.lays122_ren:Go.Shelf.Ren:=⟨fun | 122=>116 | 215=>174 | n=>n,fun | 3=>3 | 4=>4 | n=>n,fun | n=>n⟩
theorem Tryz.lays122:Go.Proofs.Lays.n122 Tryz.prog Tryz.lays122_ren:={
 mixed:=by kernel_rfl
 f122:=Tryz.func116.trans (congrArg some (by kernel_rfl))
 f215:=Tryz.func174.trans (congrArg some (by kernel_rfl))
 t3:=Tryz.underlying3
 a3:=Tryz.isAgg3
 z3:=Tryz.sizeOf3
 v3:=Tryz.zeroValue3
 t4:=Tryz.underlying4
 a4:=Tryz.isAgg4
 z4:=Tryz.sizeOf4
 v4:=Tryz.zeroValue4 }
open Go.RowKit in
theorem Tryz.cmp_Compare_int (x y:Int) (w:World) :
 Calls Tryz.prog 116 #[.int .i64 x,.int .i64 y] w fun e w'=>e = .returned (.int .i64 (Lib.compareInt x y))∧w'=w:=Any.cmp_Compare_int Tryz.lays122 x y w
def Tryz.lays171_ren:Go.Shelf.Ren:=⟨fun | 171=>178 | 243=>210 | 246=>230 | 283=>240 | 284=>241 | 285=>242 | 286=>243 | 129=>164 | 317=>248 | 318=>249 | 319=>250 | 320=>251 | 337=>255 | 338=>256 | n=>n,fun | 3=>3 | 9=>9 | 2=>2 | 4=>4 | 171=>314 | 0=>0 | 53=>146 | 37=>23 | 5=>5 | 173=>316 | 212=>323 | 51=>142 | 20=>20 | 213=>324 | 46=>165 | 232=>325 | 233=>326 | n=>n,fun | 17=>5 | 18=>6 | 19=>7 | n=>n⟩
theorem Tryz.lays171:Go.Proofs.Lays.n171 Tryz.prog Tryz.lays171_ren:={
 mixed:=by kernel_rfl
 f129:=Tryz.func164.trans (congrArg some (by kernel_rfl))
 f171:=Tryz.func178.trans (congrArg some (by kernel_rfl))
 f243:=Tryz.func210.trans (congrArg some (by kernel_rfl))
 f246:=Tryz.func230.trans (congrArg some (by kernel_rfl))
 f283:=Tryz.func240.trans (congrArg some (by kernel_rfl))
 f284:=Tryz.func241.trans (congrArg some (by kernel_rfl))
 f285:=Tryz.func242.trans (congrArg some (by kernel_rfl))
 f286:=Tryz.func243.trans (congrArg some (by kernel_rfl))
 f317:=Tryz.func248.trans (congrArg some (by kernel_rfl))
 f318:=Tryz.func249.trans (congrArg some (by kernel_rfl))
 f319:=Tryz.func250.trans (congrArg some (by kernel_rfl))
 f320:=Tryz.func251.trans (congrArg some (by kernel_rfl))
 f337:=Tryz.func255.trans (congrArg some (by kernel_rfl))
 f338:=Tryz.func256.trans (congrArg some (by kernel_rfl))
 t0:=Tryz.underlying0
 a0:=Tryz.isAgg0
 z0:=Tryz.sizeOf0
 v0:=Tryz.zeroValue0
 t2:=Tryz.underlying2
 a2:=Tryz.isAgg2
 z2:=Tryz.sizeOf2
 v2:=Tryz.zeroValue2
 t3:=Tryz.underlying3
 a3:=Tryz.isAgg3
 z3:=Tryz.sizeOf3
 v3:=Tryz.zeroValue3
 t4:=Tryz.underlying4
 a4:=Tryz.isAgg4
 z4:=Tryz.sizeOf4
 v4:=Tryz.zeroValue4
 t5:=Tryz.underlying5
 a5:=Tryz.isAgg5
 z5:=Tryz.sizeOf5
 v5:=Tryz.zeroValue5
 t9:=Tryz.underlying9
 a9:=Tryz.isAgg9
 z9:=Tryz.sizeOf9
 v9:=Tryz.zeroValue9
 t20:=Tryz.underlying20
 a20:=Tryz.isAgg20
 z20:=Tryz.sizeOf20
 v20:=Tryz.zeroValue20
 t37:=Tryz.underlying23
 a37:=Tryz.isAgg23
 z37:=Tryz.sizeOf23
 v37:=Tryz.zeroValue23
 t46:=Tryz.underlying165
 a46:=Tryz.isAgg165
 z46:=Tryz.sizeOf165
 v46:=Tryz.zeroValue165
 t51:=Tryz.underlying142
 a51:=Tryz.isAgg142
 z51:=Tryz.sizeOf142
 v51:=Tryz.zeroValue142
 t53:=Tryz.underlying146
 a53:=Tryz.isAgg146
 z53:=Tryz.sizeOf146
 v53:=Tryz.zeroValue146
 t171:=Tryz.underlying314
 a171:=Tryz.isAgg314
 z171:=Tryz.sizeOf314
 v171:=Tryz.zeroValue314
 t173:=Tryz.underlying316
 a173:=Tryz.isAgg316
 z173:=Tryz.sizeOf316
 v173:=Tryz.zeroValue316
 t212:=Tryz.underlying323
 a212:=Tryz.isAgg323
 z212:=Tryz.sizeOf323
 v212:=Tryz.zeroValue323
 t213:=Tryz.underlying324
 a213:=Tryz.isAgg324
 z213:=Tryz.sizeOf324
 t232:=Tryz.underlying325
 a232:=Tryz.isAgg325
 z232:=Tryz.sizeOf325
 v232:=Tryz.zeroValue325
 t233:=Tryz.underlying326
 a233:=Tryz.isAgg326
 z233:=Tryz.sizeOf326
 v233:=Tryz.zeroValue326
 g17:=by kernel_rfl
 g18:=by kernel_rfl
 g19:=by kernel_rfl }
open Go.RowKit Go.Sort Go.Lib in
theorem Tryz.strconv_Itoa_small (i:Nat) (hi:i < 100) (w:World) :
 Calls Tryz.prog 178 #[.int .i64 i] w fun e w'=>e = .returned (.string ⟨(Lib.decDigits i).toArray⟩)∧w'=w:=Any.strconv_Itoa_small Tryz.lays171 i hi w
def Tryz.lays143_ren:Go.Shelf.Ren:=⟨fun | 143=>136 | 219=>190 | 217=>216 | 225=>217 | 224=>218 | 267=>219 | 266=>233 | 314=>234 | n=>n,fun | 9=>9 | 3=>3 | 4=>4 | 5=>5 | 46=>165 | 146=>306 | 51=>142 | n=>n,fun | 1=>0 | n=>n⟩
theorem Tryz.lays143:Go.Proofs.Lays.n143 Tryz.prog Tryz.lays143_ren:={
 mixed:=by kernel_rfl
 f143:=Tryz.func136.trans (congrArg some (by kernel_rfl))
 f217:=Tryz.func216.trans (congrArg some (by kernel_rfl))
 f219:=Tryz.func190.trans (congrArg some (by kernel_rfl))
 f224:=Tryz.func218.trans (congrArg some (by kernel_rfl))
 f225:=Tryz.func217.trans (congrArg some (by kernel_rfl))
 f266:=Tryz.func233.trans (congrArg some (by kernel_rfl))
 f267:=Tryz.func219.trans (congrArg some (by kernel_rfl))
 f314:=Tryz.func234.trans (congrArg some (by kernel_rfl))
 t3:=Tryz.underlying3
 a3:=Tryz.isAgg3
 z3:=Tryz.sizeOf3
 v3:=Tryz.zeroValue3
 t4:=Tryz.underlying4
 a4:=Tryz.isAgg4
 z4:=Tryz.sizeOf4
 v4:=Tryz.zeroValue4
 t5:=Tryz.underlying5
 a5:=Tryz.isAgg5
 z5:=Tryz.sizeOf5
 v5:=Tryz.zeroValue5
 t9:=Tryz.underlying9
 a9:=Tryz.isAgg9
 z9:=Tryz.sizeOf9
 v9:=Tryz.zeroValue9
 t46:=Tryz.underlying165
 a46:=Tryz.isAgg165
 z46:=Tryz.sizeOf165
 v46:=Tryz.zeroValue165
 t51:=Tryz.underlying142
 a51:=Tryz.isAgg142
 z51:=Tryz.sizeOf142
 v51:=Tryz.zeroValue142
 t146:=Tryz.underlying306
 a146:=Tryz.isAgg306
 z146:=Tryz.sizeOf306
 v146:=Tryz.zeroValue306
 g1:=by kernel_rfl }
open Go.RowKit Go.Lib in
theorem Tryz.strings_Index_one (s:ByteArray) (c:UInt8) (w:World) :
 Calls Tryz.prog 136 #[.string s,.string ⟨#[c]⟩] w fun e w'=>e = .returned (.int .i64 (Lib.indexByte s.data.toList c))∧w'=w:=Any.strings_Index_one Tryz.lays143 s c w
def Tryz.lays138_ren:Go.Shelf.Ren:=⟨fun | 138=>135 | 195=>188 | 218=>189 | 143=>136 | 219=>190 | 217=>216 | 225=>217 | 224=>218 | 267=>219 | 266=>233 | 314=>234 | n=>n,fun | 9=>9 | 3=>3 | 4=>4 | 5=>5 | 0=>0 | 46=>165 | 146=>306 | 51=>142 | n=>n,fun | 1=>0 | n=>n⟩
theorem Tryz.lays138:Go.Proofs.Lays.n138 Tryz.prog Tryz.lays138_ren:={
 mixed:=by kernel_rfl
 f138:=Tryz.func135.trans (congrArg some (by kernel_rfl))
 f143:=Tryz.func136.trans (congrArg some (by kernel_rfl))
 f195:=Tryz.func188.trans (congrArg some (by kernel_rfl))
 f217:=Tryz.func216.trans (congrArg some (by kernel_rfl))
 f218:=Tryz.func189.trans (congrArg some (by kernel_rfl))
 f219:=Tryz.func190.trans (congrArg some (by kernel_rfl))
 f224:=Tryz.func218.trans (congrArg some (by kernel_rfl))
 f225:=Tryz.func217.trans (congrArg some (by kernel_rfl))
 f266:=Tryz.func233.trans (congrArg some (by kernel_rfl))
 f267:=Tryz.func219.trans (congrArg some (by kernel_rfl))
 f314:=Tryz.func234.trans (congrArg some (by kernel_rfl))
 t0:=Tryz.underlying0
 a0:=Tryz.isAgg0
 z0:=Tryz.sizeOf0
 v0:=Tryz.zeroValue0
 t3:=Tryz.underlying3
 a3:=Tryz.isAgg3
 z3:=Tryz.sizeOf3
 v3:=Tryz.zeroValue3
 t4:=Tryz.underlying4
 a4:=Tryz.isAgg4
 z4:=Tryz.sizeOf4
 v4:=Tryz.zeroValue4
 t5:=Tryz.underlying5
 a5:=Tryz.isAgg5
 z5:=Tryz.sizeOf5
 v5:=Tryz.zeroValue5
 t9:=Tryz.underlying9
 a9:=Tryz.isAgg9
 z9:=Tryz.sizeOf9
 v9:=Tryz.zeroValue9
 t46:=Tryz.underlying165
 a46:=Tryz.isAgg165
 z46:=Tryz.sizeOf165
 v46:=Tryz.zeroValue165
 t51:=Tryz.underlying142
 a51:=Tryz.isAgg142
 z51:=Tryz.sizeOf142
 v51:=Tryz.zeroValue142
 t146:=Tryz.underlying306
 a146:=Tryz.isAgg306
 z146:=Tryz.sizeOf306
 v146:=Tryz.zeroValue306
 g1:=by kernel_rfl }
open Go.RowKit Go.Lib in
theorem Tryz.strings_Count_one (s:ByteArray) (c:UInt8) (w:World) :
 Calls Tryz.prog 135 #[.string s,.string ⟨#[c]⟩] w fun e w'=>e = .returned (.int .i64 (Lib.countByte s.data.toList c))∧w'=w:=Any.strings_Count_one Tryz.lays138 s c w
def Tryz.lays99_ren:Go.Shelf.Ren:=⟨fun | 99=>94 | 206=>138 | n=>n,fun | 9=>9 | 4=>4 | 3=>3 | n=>n,fun | n=>n⟩
theorem Tryz.lays99:Go.Proofs.Lays.n99 Tryz.prog Tryz.lays99_ren:={
 mixed:=by kernel_rfl
 f99:=Tryz.func94.trans (congrArg some (by kernel_rfl))
 f206:=Tryz.func138.trans (congrArg some (by kernel_rfl))
 t3:=Tryz.underlying3
 a3:=Tryz.isAgg3
 z3:=Tryz.sizeOf3
 v3:=Tryz.zeroValue3
 t4:=Tryz.underlying4
 a4:=Tryz.isAgg4
 z4:=Tryz.sizeOf4
 v4:=Tryz.zeroValue4
 t9:=Tryz.underlying9
 a9:=Tryz.isAgg9
 z9:=Tryz.sizeOf9
 v9:=Tryz.zeroValue9 }
open Go.RowKit Go.Lib in
theorem Tryz.strings_HasPrefix (s p:ByteArray) (w:World) :
 Calls Tryz.prog 94 #[.string s,.string p] w fun e w'=>e = .returned (.bool (Lib.hasPrefix s.data.toList p.data.toList))∧w'=w:=Any.strings_HasPrefix Tryz.lays99 s p w
def Tryz.lays100_ren:Go.Shelf.Ren:=⟨fun | 100=>220 | 207=>235 | n=>n,fun | 9=>9 | 4=>4 | 3=>3 | n=>n,fun | n=>n⟩
theorem Tryz.lays100:Go.Proofs.Lays.n100 Tryz.prog Tryz.lays100_ren:={
 mixed:=by kernel_rfl
 f100:=Tryz.func220.trans (congrArg some (by kernel_rfl))
 f207:=Tryz.func235.trans (congrArg some (by kernel_rfl))
 t3:=Tryz.underlying3
 a3:=Tryz.isAgg3
 z3:=Tryz.sizeOf3
 v3:=Tryz.zeroValue3
 t4:=Tryz.underlying4
 a4:=Tryz.isAgg4
 z4:=Tryz.sizeOf4
 v4:=Tryz.zeroValue4
 t9:=Tryz.underlying9
 a9:=Tryz.isAgg9
 z9:=Tryz.sizeOf9
 v9:=Tryz.zeroValue9 }
open Go.RowKit Go.Lib in
theorem Tryz.strings_HasSuffix (s p:ByteArray) (w:World) (hs:s.size≤9223372036854775807) :
 Calls Tryz.prog 220 #[.string s,.string p] w fun e w'=>e = .returned (.bool (Lib.hasSuffix s.data.toList p.data.toList))∧w'=w:=Any.strings_HasSuffix Tryz.lays100 s p w hs
def Tryz.lays221_ren:Go.Shelf.Ren:=⟨fun | 221=>92 | 268=>134 | 138=>135 | 143=>136 | 195=>188 | 197=>152 | 218=>189 | 219=>190 | 260=>200 | 217=>216 | 225=>217 | 224=>218 | 267=>219 | 266=>233 | 314=>234 | n=>n,fun | 9=>9 | 3=>3 | 31=>60 | 4=>4 | 0=>0 | 105=>238 | 21=>21 | 5=>5 | 46=>165 | 119=>288 | 139=>291 | 138=>290 | 146=>306 | 51=>142 | n=>n,fun | 1=>0 | 3=>1 | 4=>2 | n=>n⟩
theorem Tryz.lays221:Go.Proofs.Lays.n221 Tryz.prog Tryz.lays221_ren:={
 mixed:=by kernel_rfl
 f138:=Tryz.func135.trans (congrArg some (by kernel_rfl))
 f143:=Tryz.func136.trans (congrArg some (by kernel_rfl))
 f195:=Tryz.func188.trans (congrArg some (by kernel_rfl))
 f197:=Tryz.func152.trans (congrArg some (by kernel_rfl))
 f217:=Tryz.func216.trans (congrArg some (by kernel_rfl))
 f218:=Tryz.func189.trans (congrArg some (by kernel_rfl))
 f219:=Tryz.func190.trans (congrArg some (by kernel_rfl))
 f221:=Tryz.func92.trans (congrArg some (by kernel_rfl))
 f224:=Tryz.func218.trans (congrArg some (by kernel_rfl))
 f225:=Tryz.func217.trans (congrArg some (by kernel_rfl))
 f260:=Tryz.func200.trans (congrArg some (by kernel_rfl))
 f266:=Tryz.func233.trans (congrArg some (by kernel_rfl))
 f267:=Tryz.func219.trans (congrArg some (by kernel_rfl))
 f268:=Tryz.func134.trans (congrArg some (by kernel_rfl))
 f314:=Tryz.func234.trans (congrArg some (by kernel_rfl))
 t0:=Tryz.underlying0
 a0:=Tryz.isAgg0
 z0:=Tryz.sizeOf0
 v0:=Tryz.zeroValue0
 t3:=Tryz.underlying3
 a3:=Tryz.isAgg3
 z3:=Tryz.sizeOf3
 v3:=Tryz.zeroValue3
 t4:=Tryz.underlying4
 a4:=Tryz.isAgg4
 z4:=Tryz.sizeOf4
 v4:=Tryz.zeroValue4
 t5:=Tryz.underlying5
 a5:=Tryz.isAgg5
 z5:=Tryz.sizeOf5
 v5:=Tryz.zeroValue5
 t9:=Tryz.underlying9
 a9:=Tryz.isAgg9
 z9:=Tryz.sizeOf9
 v9:=Tryz.zeroValue9
 t21:=Tryz.underlying21
 a21:=Tryz.isAgg21
 z21:=Tryz.sizeOf21
 v21:=Tryz.zeroValue21
 t31:=Tryz.underlying60
 a31:=Tryz.isAgg60
 z31:=Tryz.sizeOf60
 v31:=Tryz.zeroValue60
 t46:=Tryz.underlying165
 a46:=Tryz.isAgg165
 z46:=Tryz.sizeOf165
 v46:=Tryz.zeroValue165
 t51:=Tryz.underlying142
 a51:=Tryz.isAgg142
 z51:=Tryz.sizeOf142
 v51:=Tryz.zeroValue142
 t105:=Tryz.underlying238
 a105:=Tryz.isAgg238
 z105:=Tryz.sizeOf238
 v105:=Tryz.zeroValue238
 t119:=Tryz.underlying288
 a119:=Tryz.isAgg288
 z119:=Tryz.sizeOf288
 t138:=Tryz.underlying290
 a138:=Tryz.isAgg290
 z138:=Tryz.sizeOf290
 v138:=Tryz.zeroValue290
 t139:=Tryz.underlying291
 a139:=Tryz.isAgg291
 z139:=Tryz.sizeOf291
 v139:=Tryz.zeroValue291
 t146:=Tryz.underlying306
 a146:=Tryz.isAgg306
 z146:=Tryz.sizeOf306
 v146:=Tryz.zeroValue306
 g1:=by kernel_rfl
 g3:=by kernel_rfl
 g4:=by kernel_rfl }
end Go.Proofs
end
section
open Go.RowKit
namespace Go.Proofs.YtfflmmbhpchloaaGreatDoor
theorem kwp_named {P:Program} {c:Code} {Q:Exit→Act→World→Prop} {a:Act} {X:World} (h:∀ W',W'=X→Code.wp P c Q a W'):Code.wp P c Q a X:=h X rfl
theorem nanS_any (s:ByteArray) (w:World):Calls Tryz.prog 173 #[.string s] w fun e w'=>e = .returned (.bool false)∧w=w':=by
 go_enter Tryz.func173,Tryz.ntmps173
 go_wp2
 go_ret
 exact ⟨by simp,rfl⟩
theorem binOp_string_gtr (t:TypeId) (a b:ByteArray):binOp .gtr t (.string a) (.string b)=pure (.bool (!(Op.bytesLess a.toList b.toList || (a.toList == b.toList)))):=by simp [binOp,Op.stringOp]
attribute [local go_sem] binOp_string_gtr
def ltS (a b:ByteArray):Bool:=Op.bytesLess a.toList b.toList
def cmpS (a b:ByteArray):Int:=if ltS a b then -1 else if a.toList == b.toList then 0 else 1
theorem cmpS_any (a b:ByteArray) (w:World):Calls Tryz.prog 115 #[.string a,.string b] w fun e w'=>e = .returned (.int .i64 (cmpS a b))∧w=w':=by
 have CN:=yhide nanS_any
 obtain ⟨x,hx⟩:∃ x,Op.bytesLess a.toList b.toList=x:=⟨_,rfl⟩
 obtain ⟨y,hy⟩:∃ y,(a.toList == b.toList)=y:=⟨_,rfl⟩
 have HV:Hid (cmpS a b=if x then -1 else if y then 0 else 1):=by unfold Hid cmpS ltS;rw [hx,hy]
 cases x <;> cases y
 all_goals
  go_enter Tryz.func115,Tryz.ntmps115
  go_wp2_with (first | (go_at_call 173;(with_reducible refine (CN.out _ _).mono ?_);rintro e w1 ⟨rfl,rfl⟩) | fail)
  go_ret
  exact ⟨by rw [HV.out];rfl,rfl⟩
def or3 (x y z:Int):Int:=if x ≠ 0 then x else if y ≠ 0 then y else z
theorem or3_any {p:Nat} {x y z:Int} {w:World} (h:At w p [.int .i64 x,.int .i64 y,.int .i64 z]):Calls Tryz.prog 114 #[.slice (some ⟨p,0,none⟩) 3 3] w fun e w'=>e = .returned (.int .i64 (or3 x y z))∧w=w':=by
 have c0:=h.c0;have c1:=h.c1;have c2:=h.c2
 clear h
 obtain ⟨bx,hbx⟩:∃ b,(x == 0)=b:=⟨_,rfl⟩
 obtain ⟨byy,hby⟩:∃ b,(y == 0)=b:=⟨_,rfl⟩
 obtain ⟨bz,hbz⟩:∃ b,(z == 0)=b:=⟨_,rfl⟩
 have HV:Hid (or3 x y z=if bx then (if byy then z else y) else x):=by
  unfold Hid or3;rw [← hbx,← hby]
  by_cases h1:x=0 <;> by_cases h2:y=0 <;> simp [h1,h2]
 have HZ:Hid (bz=true→z=0):=fun h=>by rw [h] at hbz;simpa using hbz
 go_enter Tryz.func114,Tryz.ntmps114
 go_wp2
 go_loop [8] (fun iv=>iv = .int .i64 0 ∨ (iv = .int .i64 1∧Hid (bx=true)) ∨ (iv = .int .i64 2∧Hid (bx=true∧byy=true)) ∨ (iv = .int .i64 3∧Hid (bx=true∧byy=true∧bz=true))) (fun iv=>3 - (intOf iv).toNat)
 case atStart=>exact .inl rfl
 case round =>
  rcases hrel with rfl | ⟨rfl,h0⟩ | ⟨rfl,h0⟩ | ⟨rfl,h0⟩
  ·cases bx
   ·go_wp2
    go_ret
    exact ⟨by rw [HV.out];rfl,rfl⟩
   ·go_wp2
    go_round
    case rel=>exact .inr (.inl ⟨rfl,by simp [Hid]⟩)
    case measure=>simp [intOf]
  ·obtain rfl:bx=true:=h0.out
   cases byy
   ·go_wp2
    go_ret
    exact ⟨by rw [HV.out];rfl,rfl⟩
   ·go_wp2
    go_round
    case rel=>exact .inr (.inr (.inl ⟨rfl,by simp [Hid]⟩))
    case measure=>simp [intOf]
  ·obtain ⟨rfl,rfl⟩:bx=true∧byy=true:=h0.out
   cases bz
   ·go_wp2
    go_ret
    exact ⟨by rw [HV.out];rfl,rfl⟩
   ·go_wp2
    go_round
    case rel=>exact .inr (.inr (.inr ⟨rfl,by simp [Hid]⟩))
    case measure=>simp [intOf]
  ·obtain ⟨rfl,rfl,rfl⟩:bx=true∧byy=true∧bz=true:=h0.out
   go_wp2
   go_ret
   exact ⟨by rw [HV.out,HZ.out (by trivial)];rfl,rfl⟩
def lessB (p n:ByteArray) (k:Int) (p' n':ByteArray) (k':Int):Bool:=decide (or3 (cmpS n n') (cmpS p p') (Lib.compareInt k k') < 0)
theorem less_any (p n:ByteArray) (k:Int) (p' n':ByteArray) (k':Int) (w:World):Calls Tryz.prog 82 #[.agg #[.string p,.string n,.int .i64 k],.agg #[.string p',.string n',.int .i64 k']] w (RetB w (lessB p n k p' n' k')):=by
 have CS:=yhide cmpS_any
 have CI:Hid (∀ (x y:Int) (W:World),Calls Tryz.prog 116 #[.int .i64 x,.int .i64 y] W fun e w'=>e = .returned (.int .i64 (Lib.compareInt x y))∧W=w'):=fun x y W=>(Tryz.cmp_Compare_int x y W).mono fun e w' ⟨h1,h2⟩=>⟨h1,h2.symm⟩
 obtain ⟨x,hx⟩:∃ x,cmpS n n'=x:=⟨_,rfl⟩
 obtain ⟨y,hy⟩:∃ x,cmpS p p'=x:=⟨_,rfl⟩
 obtain ⟨z,hz⟩:∃ x,Lib.compareInt k k'=x:=⟨_,rfl⟩
 obtain ⟨v,hv⟩:∃ v,or3 x y z=v:=⟨_,rfl⟩
 have HV:Hid (lessB p n k p' n' k'=decide (v < 0)):=by unfold Hid lessB;rw [hx,hy,hz,hv]
 have CO:Hid (∀ {q:Nat} {W:World},At W q [.int .i64 x,.int .i64 y,.int .i64 z]→Calls Tryz.prog 114 #[.slice (some ⟨q,0,none⟩) 3 3] W fun e w'=>e = .returned (.int .i64 v)∧W=w'):=fun h=>hv ▸ or3_any h
 have C1:Hid (∀ W:World,Calls Tryz.prog 115 #[.string n,.string n'] W fun e w'=>e = .returned (.int .i64 x)∧W=w'):=fun W=>hx ▸ CS.out _ _ _
 have C2:Hid (∀ W:World,Calls Tryz.prog 115 #[.string p,.string p'] W fun e w'=>e = .returned (.int .i64 y)∧W=w'):=fun W=>hy ▸ CS.out _ _ _
 have C3:Hid (∀ W:World,Calls Tryz.prog 116 #[.int .i64 k,.int .i64 k'] W fun e w'=>e = .returned (.int .i64 z)∧W=w'):=fun W=>hz ▸ CI.out _ _ _
 clear hx hy hz hv CS CI
 go_enter Tryz.func82,Tryz.ntmps82
 go_upto_region 1 with fail
 refine kwp_named ?_
 intro W2 hW2
 have HA:At W2 w.heap.size [.string p,.string n,.int .i64 k]:=by rw [hW2];exact (at_new0 _ _ _).al _
 have HC:At W2 (w.heap.size + 1) [.string p',.string n',.int .i64 k']:=by rw [hW2];exact at_new1 _ _ _ _
 have HB:Bel w W2:=by rw [hW2];exact ((Bel.refl w).al _).al _
 obtain ⟨q2,hq2⟩:∃ q,q=w.heap.size + 1:=⟨_,rfl⟩
 obtain ⟨q1,hq1⟩:∃ q,q=w.heap.size:=⟨_,rfl⟩
 rw [← hq2] at HC
 rw [← hq1] at HA
 rw [← hq2,← hq1]
 clear hW2 hq1 hq2
 go_region_held3 (fun w'=>w'.cell? ⟨q1,0,none⟩=some (.string p)∧w'.cell? ⟨q1,1,none⟩=some (.string n)∧w'.cell? ⟨q1,2,none⟩=some (.int .i64 k)∧w'.cell? ⟨q2,0,none⟩=some (.string p')∧w'.cell? ⟨q2,1,none⟩=some (.string n')∧w'.cell? ⟨q2,2,none⟩=some (.int .i64 k'))
  (first | (with_reducible exact ⟨HA.dr.c0,HA.dr.c1,HA.dr.c2,HC.dr.c0,HC.dr.c1,HC.dr.c2⟩) | (with_reducible exact ⟨(HA.dr.al _).c0,(HA.dr.al _).c1,(HA.dr.al _).c2,(HC.dr.al _).c0,(HC.dr.al _).c1,(HC.dr.al _).c2⟩) | (with_reducible exact ⟨(HA.al _).dr.c0,(HA.al _).dr.c1,(HA.al _).dr.c2,(HC.al _).dr.c0,(HC.al _).dr.c1,(HC.al _).dr.c2⟩) | fail)
  (first | (go_at_call 115;(with_reducible refine (C1.out _).mono ?_);rintro e w1 ⟨rfl,rfl⟩) | (go_at_call 115;(with_reducible refine (C2.out _).mono ?_);rintro e w1 ⟨rfl,rfl⟩) | (go_at_call 116;(with_reducible refine (C3.out _).mono ?_);rintro e w1 ⟨rfl,rfl⟩) | (go_at_call 114;(with_reducible refine (CO.out (at_new0 _ [.int .i64 x,.int .i64 y,.int .i64 z] _)).mono ?_);rintro e w1 ⟨rfl,rfl⟩) | (go_at_call 114;(with_reducible refine (CO.out (at_new0 W2 [.int .i64 x,.int .i64 y,.int .i64 z] 3).dr).mono ?_);rintro e w1 ⟨rfl,rfl⟩) | fail)
 all_goals go_wp2_with fail
 all_goals go_ret
 all_goals exact ⟨ybool (HV.out.symm),(by first | exact (HB.al _).dr | exact HB.dr.al _)⟩

theorem khide {p:Prop} (h:p):Hid p:=h
theorem numB_size (n:Nat):(numB n).size≤2:=by unfold numB;split <;> exact of_decide_eq_true rfl
theorem powerWord_any {n:Nat} (h2:2≤n) (h15:n < 16) (w:World):Calls Tryz.prog 143 #[.int .i64 (n:Int)] w fun e w'=>e = .returned (.string (pwB n))∧w=w':=by
 by_cases e2:n=2
 ·subst e2
  go_enter Tryz.func143,Tryz.ntmps143
  go_wp2
  go_ret
  exact ⟨rfl,rfl⟩
 by_cases e3:n=3
 ·subst e3
  go_enter Tryz.func143,Tryz.ntmps143
  go_wp2
  go_ret
  exact ⟨rfl,rfl⟩
 ·have d2:((n:Int) == 2)=false:=by rw [beq_eq_false_iff_ne];omega
  have d3:((n:Int) == 3)=false:=by rw [beq_eq_false_iff_ne];omega
  obtain ⟨t,ht⟩:∃ t,t=numB n:=⟨_,rfl⟩
  have CI:Hid (∀ W:World,Calls Tryz.prog 178 #[.int .i64 (n:Int)] W fun e w'=>e = .returned (.string t)∧W=w'):=fun W=>(Tryz.strconv_Itoa_small n (by omega) W).mono fun e w' ⟨h1,h3⟩=>⟨by rw [h1,decDigits_num (by omega),ht],h3.symm⟩
  have hs:t.size≤2:=by rw [ht];exact numB_size n
  have HV:Hid (pwB n=powB ++ t):=by unfold Hid pwB;rw [if_neg e2,if_neg e3,ht]
  clear ht e2 e3 h2 h15
  go_enter Tryz.func143,Tryz.ntmps143
  go_wp2_with (first | (go_at_call 178;(with_reducible refine (CI.out _).mono ?_);rintro e w1 ⟨rfl,rfl⟩) | fail)
  go_ret
  exact ⟨by rw [HV.out];rfl,rfl⟩
def RetII (W:World) (a b:Int) (e:Ending) (w':World):Prop:=e = .returned (.tuple #[.int .i64 a,.int .i64 b])∧Bel W w'
def leadP:List ByteArray→Nat × Nat
 | []=>(1,0)
 | s :: _=>if powOf s=0 then (1,0) else (powOf s,1)
theorem bel_drewN {w W:World} {q:Nat} (h:Hid (W=w.drewN q)):Bel w W:=by rw [h.out];exact ybelow_drewN (Below.refl _ _) q
theorem lead_any {A:Option Addr} {n c:Nat} {xs:List ByteArray} {w:World} (h:Ss w A xs) (hn:n=xs.length):Calls Tryz.prog 192 #[.slice A n c] w (RetII w ((leadP xs).1:Int) ((leadP xs).2:Int)):=by
 have CP:Hid (∀ (n:Nat) (W:World),2≤n→n < 16→Calls Tryz.prog 143 #[.int .i64 (n:Int)] W fun e w'=>e = .returned (.string (pwB n))∧W=w'):=fun n W h2 h15=>powerWord_any h2 h15 W
 cases xs with
 | nil =>
   subst hn
   clear h
   go_enter Tryz.func192,Tryz.ntmps192
   go_wp2
   go_ret2
   exact ⟨rfl,Bel.refl _⟩
 | cons s ys =>
   obtain ⟨ad,rfl,hb,hcell0⟩:=h.out.at_ (k:=0) (by simp)
   rw [show (s :: ys)[0]=s from rfl,show ad.add 0=ad by simp [Addr.add]] at hcell0
   have hn0:0 < n:=by rw [hn];simp
   have d1:((n:Int) == 0)=false:=by rw [beq_eq_false_iff_ne];omega
   have d2:(0:Int) < (n:Int):=by omega
   clear hn h
   go_enter Tryz.func192,Tryz.ntmps192
   go_wp2
   go_loopw [4] (fun iv wr=>∃ k q:Nat,2≤k∧k≤16∧iv = .int .i64 (k:Int)∧Hid (wr=w.drewN q)∧Hid (∀ m,m < k→2≤m→s ≠ pwB m)) (fun iv _=>16 - (intOf iv).toNat)
   case atStart=>exact ⟨2,0,by omega,by omega,rfl,rfl,fun m h1 h2=>by omega⟩
   case round =>
    obtain ⟨k,q,hk2,hk,rfl,HQ,HM⟩:=hrel
    by_cases hlt:k < 16
    ·have hcell:wr.cell? ad=some (.string s):=by rw [HQ.out];exact hcell0
     have d3:decide ((k:Int)≤15)=true:=decide_eq_true (by omega)
     obtain ⟨t,ht⟩:∃ t,t=pwB k:=⟨_,rfl⟩
     have CQ:Hid (∀ W:World,Calls Tryz.prog 143 #[.int .i64 (k:Int)] W fun e w'=>e = .returned (.string t)∧w'=W):=fun W=>(ht ▸ CP.out k W hk2 hlt).mono fun e w' ⟨h1,h3⟩=>⟨h1,h3.symm⟩
     have HT:=khide ht
     clear ht
     by_cases he:s=t
     ·have HE:Hid (powOf s=k):=by unfold Hid;rw [he,HT.out];exact powOf_pw k hlt hk2
      have e2:(s.toList == t.toList)=true:=by rw [he];simp
      have HK2:=khide hk2
      clear he
      go_wp2_with fail
      go_quiet (first | (go_at_call 143;exact Calls.quiet_of_same (CQ.out _)) | fail)
      go_wp2
      go_ret2
      obtain ⟨q2,hq2⟩:=ydrew_more HQ
      refine ⟨?_,bel_drewN hq2⟩
      have hne:¬ powOf s=0:=by rw [HE.out];have:=HK2.out;omega
      simp only [leadP]
      rw [if_neg hne,HE.out];rfl
     ·have e2:(s.toList == t.toList)=false:=by
       rw [beq_eq_false_iff_ne];intro e3;rw [Lib.toList_data,Lib.toList_data] at e3
       exact he (ByteArray.ext (Array.ext' e3))
      have HE:=khide he
      clear he
      go_wp2_with fail
      go_quiet (first | (go_at_call 143;exact Calls.quiet_of_same (CQ.out _)) | fail)
      go_wp2
      go_roundw
      case rel =>
       obtain ⟨q2,hq2⟩:=ydrew_more HQ
       refine ⟨k + 1,q2,by omega,by omega,by go_num,hq2,fun m h1 h2=>?_⟩
       rcases Nat.lt_or_ge m k with h3 | h3
       ·exact HM.out m h3 h2
       ·obtain rfl:m=k:=by omega
        rw [← HT.out];exact HE.out
      case measure=>simp [intOf];omega
    ·obtain rfl:k=16:=by omega
     go_wp2
     go_ret2
     refine ⟨?_,bel_drewN HQ⟩
     simp only [leadP]
     rw [if_pos (powOf_no HM.out)];rfl
theorem toList_inj {a b:ByteArray} (h:a.toList=b.toList):a=b:=by
 rw [Lib.toList_data,Lib.toList_data] at h
 exact ByteArray.ext (Array.ext' h)
theorem str_ne {a b:ByteArray} (h:a ≠ b):(a.toList == b.toList)=false:=by
 rw [beq_eq_false_iff_ne];exact fun e=>h (toList_inj e)
theorem str_lit {a b:ByteArray} {l:List UInt8} (h:a ≠ b) (hl:b.data.toList=l):(a.toList == l)=false:=by
 rw [← hl,← Lib.toList_data];exact str_ne h
theorem trim_h {s:ByteArray} (hs:s.size≤9223372036854775807) (w:World):Calls Tryz.prog 245 #[.string s,.string ⟨#[48,49,50,51,52,53,54,55,56,57]⟩] w fun e w'=>e = .returned (.string ⟨(Lib.trimS s.data.toList digitSet).toArray⟩)∧Bel w w' :=
 Any.strings_Trim_ascii Tryz.lays160 (fun w=>by kernel_rfl) (by kernel_rfl) s ⟨#[48,49,50,51,52,53,54,55,56,57]⟩ w hs (by decide) (fun j b hb=>by
  have hm:=List.mem_of_getElem? hb
  have:∀ b ∈ digitSet,b.toNat < 128:=by decide
  exact this b hm)
theorem isDigits_h {s:ByteArray} {r:Bool} (hs:s.size≤9223372036854775807) (hr:digitsB s.data.toList=r) (w:World):Calls Tryz.prog 236 #[.string s] w (RetB w r):=by
 cases he:s.toList.isEmpty with
 | true =>
   have HV:Hid (false=r):=by
    unfold Hid;rw [← hr];unfold digitsB
    rw [Lib.toList_data] at he
    rw [he];rfl
   clear hr hs
   go_enter Tryz.func236,Tryz.ntmps236
   go_wp2
   go_ret
   exact ⟨ybool HV.out,Bel.refl _⟩
 | false =>
   obtain ⟨t,ht⟩:∃ t:ByteArray,t=⟨(Lib.trimS s.data.toList digitSet).toArray⟩:=⟨_,rfl⟩
   have CT:Hid (∀ W:World,Calls Tryz.prog 245 #[.string s,.string ⟨#[48,49,50,51,52,53,54,55,56,57]⟩] W fun e w'=>e = .returned (.string t)∧Bel W w'):=fun W=>ht ▸ trim_h hs W
   have hb:t.toList.isEmpty=r:=by
    rw [ht,Lib.toList_data]
    show (Lib.trimS s.data.toList digitSet).isEmpty=r
    rw [trim_digits,← hr];unfold digitsB
    rw [Lib.toList_data] at he
    rw [he];rfl
   clear ht hs hr
   go_enter Tryz.func236,Tryz.ntmps236
   go_wp2_with (first | (go_at_call 245;(with_reducible refine (CT.out _).mono ?_);rintro e w1 ⟨rfl,HB⟩) | fail)
   go_ret
   exact ⟨rfl,HB⟩
theorem resB_lit {s:ByteArray} (h:s=perB ∨ s=andB ∨ s=sqB ∨ s=cuB):resB s=true:=by
 rcases h with rfl | rfl | rfl | rfl <;> decide +kernel
theorem isReserved_h {s:ByteArray} {r:Bool} (hs:s.size≤9223372036854775807) (hr:resB s=r) (w:World):Calls Tryz.prog 224 #[.string s] w (RetB w r):=by
 by_cases h1:s=perB ∨ s=andB ∨ s=sqB ∨ s=cuB
 ·rw [resB_lit h1] at hr
  subst hr
  clear hs
  rcases h1 with rfl | rfl | rfl | rfl
  all_goals
   (first | unfold perB | unfold andB | unfold sqB | unfold cuB)
   go_enter Tryz.func224,Tryz.ntmps224
   go_wp2
   go_ret
   exact ⟨rfl,Bel.refl _⟩
 ·have n1:s ≠ perB:=fun h=>h1 (.inl h)
  have n2:s ≠ andB:=fun h=>h1 (.inr (.inl h))
  have n3:s ≠ sqB:=fun h=>h1 (.inr (.inr (.inl h)))
  have n4:s ≠ cuB:=fun h=>h1 (.inr (.inr (.inr h)))
  have d1:(s.toList == [112,101,114])=false:=str_lit n1 rfl
  have d2:(s.toList == [97,110,100])=false:=str_lit n2 rfl
  have d3:(s.toList == [115,113,117,97,114,101])=false:=str_lit n3 rfl
  have d4:(s.toList == [99,117,98,105,99])=false:=str_lit n4 rfl
  obtain ⟨b1,hb1⟩:∃ b,digitsB s.data.toList=b:=⟨_,rfl⟩
  obtain ⟨b2,hb2⟩:∃ b,Lib.hasPrefix s.data.toList powB.data.toList=b:=⟨_,rfl⟩
  obtain ⟨t,ht⟩:∃ t:ByteArray,t=⟨(Lib.trimPrefix s.data.toList powB.data.toList).toArray⟩:=⟨_,rfl⟩
  obtain ⟨b3,hb3⟩:∃ b,digitsB t.data.toList=b:=⟨_,rfl⟩
  have hts:t.size≤9223372036854775807:=by
   rw [ht,Lib.size_eq]
   show (Lib.trimPrefix s.data.toList powB.data.toList).length≤_
   rw [Lib.size_eq] at hs
   unfold Lib.trimPrefix
   split
   ·rw [List.length_drop];omega
   ·exact hs
  have HV:Hid ((b1 || (b2 && b3))=r):=by
   unfold Hid;rw [← hr];unfold resB
   rw [decide_eq_false n1,decide_eq_false n2,decide_eq_false n3,decide_eq_false n4,hb1,hb2]
   cases b2 with
   | false=>rfl
   | true =>
     have e:t.data.toList=s.data.toList.drop 3:=by
      rw [ht]
      show Lib.trimPrefix s.data.toList powB.data.toList=_
      unfold Lib.trimPrefix
      rw [hb2];rfl
     rw [← e,hb3];rfl
  have CC:Hid (∀ W:World,Calls Tryz.prog 232 #[.string s,.string ⟨#[112,111,119]⟩] W fun e w'=>e = .returned (.tuple #[.string t,.bool b2])∧W=w'):=fun W=>(Tryz.strings_CutPrefix s powB W).mono fun e w' ⟨h1,h3⟩=>⟨by rw [h1,ht,hb2],h3.symm⟩
  have CD1:Hid (∀ W:World,Calls Tryz.prog 236 #[.string s] W (RetB W b1)):=fun W=>isDigits_h hs hb1 W
  have CD2:Hid (∀ W:World,Calls Tryz.prog 236 #[.string t] W (RetB W b3)):=fun W=>isDigits_h hts hb3 W
  clear hb1 hb2 hb3 ht hts hs hr n1 n2 n3 n4 h1
  cases b1 <;> cases b2
  all_goals
   go_enter Tryz.func224,Tryz.ntmps224
   go_wp2_with (first | (go_at_call 232;(with_reducible refine (CC.out _).mono ?_);rintro e w1 ⟨rfl,rfl⟩) | (go_at_call 236;(with_reducible refine (CD1.out _).mono ?_);rintro e w2 ⟨rfl,HB⟩) | (go_at_call 236;(with_reducible refine (CD2.out _).mono ?_);rintro e w3 ⟨rfl,HB2⟩;replace HB:=HB.up HB2.hid) | fail)
   go_ret
   exact ⟨ybool HV.out,HB⟩
end Go.Proofs.YtfflmmbhpchloaaGreatDoor
end
