/- Each theorem here says its own conditions. -/
import Derived.Shelf.Strings.OnBuilder
import Derived.Shelf.Strings.Split
import Derived.Shelf.LaysM
import Derived.Shelf.Strconv.Itoa3
import Derived.Shelf.Strconv.Itoa4
import Derived.Shelf.Strconv.AtoiAll
import Derived.Shelf.Slices.Clone
import Derived.Ground.NamesProg
import Derived.Test.YtfflmmbhpchloaaGreatDoorProg
import Derived.Below
import Derived.WalkKit
import Derived.Deep.RegionHeld
import Derived.Lib.LaidTab
import Derived.Lib.ItoaNum
import Derived.LaidSub
import Derived.Test.YtfflmmbhpchloaaGreatDoorCards
import Derived.Test.YtfflmmbhpchloaaGreatDoorTie
import Derived.ProofKit
import Derived.OpenShut
import Derived.Deep.DeepHandedRow
import Derived.Stop.LaidErr
import Derived.Lib.SplitLaws
import Derived.Lib.Join
set_option maxRecDepth 100000
set_option maxHeartbeats 16000000
section
namespace Go.Proofs
open Go.Shelf
def Tryz.laysM171_ren:Go.Shelf.Ren:=⟨fun | 171=>178 | 243=>210 | 246=>230 | 283=>240 | 284=>241 | 285=>242 | 286=>243 | 129=>164 | 317=>248 | 318=>249 | 319=>250 | 320=>251 | 337=>255 | 338=>256 | n=>n,fun | 3=>3 | 9=>9 | 2=>2 | 4=>4 | 171=>314 | 0=>0 | 53=>146 | 37=>23 | 5=>5 | 173=>316 | 212=>323 | 51=>142 | 20=>20 | 213=>324 | 46=>165 | 232=>325 | 233=>326 | n=>n,fun | 17=>5 | 18=>6 | 19=>7 | n=>n⟩
theorem Tryz.laysM171:Go.Proofs.LaysM.n171 Tryz.prog Tryz.laysM171_ren:={
 mixed:=by kernel_rfl
 f129:=Tryz.func164.trans (congrArg some (by kernel_rfl))
 f171:=Tryz.func178.trans (congrArg some (by kernel_rfl))
 f243:=Tryz.func210.trans (congrArg some (by kernel_rfl))
 f246:=Tryz.func230.trans (congrArg some (by kernel_rfl))
 f283:=Tryz.func240.trans (congrArg some (by kernel_rfl))
 f284:=Tryz.func241.trans (congrArg some (by kernel_rfl))
 f285:=Tryz.func242.trans (congrArg some (by kernel_rfl))
 f286:=Tryz.func243.trans (congrArg some (by kernel_rfl))
 f317:=Tryz.func248.trans (congrArg some (by kernel_rfl))
 f318:=Tryz.func249.trans (congrArg some (by kernel_rfl))
 f319:=Tryz.func250.trans (congrArg some (by kernel_rfl))
 f320:=Tryz.func251.trans (congrArg some (by kernel_rfl))
 f337:=Tryz.func255.trans (congrArg some (by kernel_rfl))
 f338:=Tryz.func256.trans (congrArg some (by kernel_rfl))
 t0:=Tryz.underlying0
 a0:=Tryz.isAgg0
 z0:=Tryz.sizeOf0
 v0:=Tryz.zeroValue0
 t2:=Tryz.underlying2
 a2:=Tryz.isAgg2
 z2:=Tryz.sizeOf2
 v2:=Tryz.zeroValue2
 t3:=Tryz.underlying3
 a3:=Tryz.isAgg3
 z3:=Tryz.sizeOf3
 v3:=Tryz.zeroValue3
 t4:=Tryz.underlying4
 a4:=Tryz.isAgg4
 z4:=Tryz.sizeOf4
 v4:=Tryz.zeroValue4
 t5:=Tryz.underlying5
 a5:=Tryz.isAgg5
 z5:=Tryz.sizeOf5
 v5:=Tryz.zeroValue5
 t9:=Tryz.underlying9
 a9:=Tryz.isAgg9
 z9:=Tryz.sizeOf9
 v9:=Tryz.zeroValue9
 t20:=Tryz.underlying20
 a20:=Tryz.isAgg20
 z20:=Tryz.sizeOf20
 v20:=Tryz.zeroValue20
 t37:=Tryz.underlying23
 a37:=Tryz.isAgg23
 z37:=Tryz.sizeOf23
 v37:=Tryz.zeroValue23
 t46:=Tryz.underlying165
 a46:=Tryz.isAgg165
 z46:=Tryz.sizeOf165
 v46:=Tryz.zeroValue165
 t51:=Tryz.underlying142
 a51:=Tryz.isAgg142
 z51:=Tryz.sizeOf142
 v51:=Tryz.zeroValue142
 t53:=Tryz.underlying146
 a53:=Tryz.isAgg146
 z53:=Tryz.sizeOf146
 v53:=Tryz.zeroValue146
 t171:=Tryz.underlying314
 a171:=Tryz.isAgg314
 z171:=Tryz.sizeOf314
 v171:=Tryz.zeroValue314
 t173:=Tryz.underlying316
 a173:=Tryz.isAgg316
 z173:=Tryz.sizeOf316
 v173:=Tryz.zeroValue316
 t212:=Tryz.underlying323
 a212:=Tryz.isAgg323
 z212:=Tryz.sizeOf323
 v212:=Tryz.zeroValue323
 t213:=Tryz.underlying324
 a213:=Tryz.isAgg324
 z213:=Tryz.sizeOf324
 t232:=Tryz.underlying325
 a232:=Tryz.isAgg325
 z232:=Tryz.sizeOf325
 v232:=Tryz.zeroValue325
 t233:=Tryz.underlying326
 a233:=Tryz.isAgg326
 z233:=Tryz.sizeOf326
 v233:=Tryz.zeroValue326
 g17:=by kernel_rfl
 g18:=by kernel_rfl
 g19:=by kernel_rfl
 i0:=by kernel_rfl
 i2:=by kernel_rfl
 i3:=by kernel_rfl
 i4:=by kernel_rfl
 i5:=by kernel_rfl
 i9:=by kernel_rfl
 i20:=by kernel_rfl
 i37:=by kernel_rfl
 i46:=by kernel_rfl
 i51:=by kernel_rfl
 i53:=by kernel_rfl
 i171:=by kernel_rfl
 i173:=by kernel_rfl
 i212:=by kernel_rfl
 i232:=by kernel_rfl
 i233:=by kernel_rfl
 m17:=by kernel_rfl
 m18:=by kernel_rfl
 m19:=by kernel_rfl }
open Go.RowKit Go.Sort Go.Lib in
theorem Tryz.strconv_Itoa (n : Int) (h0 : -9223372036854775808 ≤ n) (h1 : n ≤ 9223372036854775807) (w : World) (htab : Lib.TabIs Tryz.prog w "internal/strconv.uint64pow10" .u64 Lib.pow10Tab) :
 Calls Tryz.prog 178 #[.int .i64 n] w fun e w'=>e = .returned (.string ⟨(Lib.itoa n).toArray⟩) ∧ ∃ k os,w'=grow (w.drewN k) os:=Any.strconv_Itoa Tryz.laysM171 n h0 h1 w htab
def Tryz.laysC172_ren:Go.Shelf.Ren:=⟨fun | 172=>177 | 244=>208 | 245=>209 | 247=>225 | 279=>226 | 280=>227 | 281=>228 | 282=>229 | 287=>237 | 316=>238 | 171=>178 | 205=>239 | 321=>246 | 322=>247 | 243=>210 | 246=>230 | 283=>240 | 284=>241 | 285=>242 | 286=>243 | 129=>164 | 317=>248 | 318=>249 | 319=>250 | 320=>251 | 337=>255 | 338=>256 | n=>n,fun | 9=>9 | 3=>3 | 75=>152 | 76=>153 | 4=>4 | 5=>5 | 167=>298 | 37=>23 | 0=>0 | 85=>299 | 2=>2 | 168=>301 | 53=>146 | 175=>308 | 46=>165 | 210=>312 | 127=>185 | 145=>321 | 143=>319 | 21=>21 | 171=>314 | 173=>316 | 212=>323 | 51=>142 | 20=>20 | 213=>324 | 232=>325 | 233=>326 | 80=>29 | n=>n,fun | 15=>3 | 16=>4 | 17=>5 | 18=>6 | 19=>7 | n=>n⟩
theorem Tryz.laysC172:Go.Proofs.LaysC.n172 Tryz.prog Tryz.laysC172_ren:={
 mixed:=by kernel_rfl
 f129:=Tryz.func164.trans (congrArg some (by kernel_rfl))
 f171:=Tryz.func178.trans (congrArg some (by kernel_rfl))
 f172:=Tryz.func177.trans (congrArg some (by kernel_rfl))
 f205:=Tryz.func239.trans (congrArg some (by kernel_rfl))
 f243:=Tryz.func210.trans (congrArg some (by kernel_rfl))
 f244:=Tryz.func208.trans (congrArg some (by kernel_rfl))
 f245:=Tryz.func209.trans (congrArg some (by kernel_rfl))
 f246:=Tryz.func230.trans (congrArg some (by kernel_rfl))
 f247:=Tryz.func225.trans (congrArg some (by kernel_rfl))
 f279:=Tryz.func226.trans (congrArg some (by kernel_rfl))
 f280:=Tryz.func227.trans (congrArg some (by kernel_rfl))
 f281:=Tryz.func228.trans (congrArg some (by kernel_rfl))
 f282:=Tryz.func229.trans (congrArg some (by kernel_rfl))
 f283:=Tryz.func240.trans (congrArg some (by kernel_rfl))
 f284:=Tryz.func241.trans (congrArg some (by kernel_rfl))
 f285:=Tryz.func242.trans (congrArg some (by kernel_rfl))
 f286:=Tryz.func243.trans (congrArg some (by kernel_rfl))
 f287:=Tryz.func237.trans (congrArg some (by kernel_rfl))
 f316:=Tryz.func238.trans (congrArg some (by kernel_rfl))
 f317:=Tryz.func248.trans (congrArg some (by kernel_rfl))
 f318:=Tryz.func249.trans (congrArg some (by kernel_rfl))
 f319:=Tryz.func250.trans (congrArg some (by kernel_rfl))
 f320:=Tryz.func251.trans (congrArg some (by kernel_rfl))
 f321:=Tryz.func246.trans (congrArg some (by kernel_rfl))
 f322:=Tryz.func247.trans (congrArg some (by kernel_rfl))
 f337:=Tryz.func255.trans (congrArg some (by kernel_rfl))
 f338:=Tryz.func256.trans (congrArg some (by kernel_rfl))
 t0:=Tryz.underlying0
 a0:=Tryz.isAgg0
 z0:=Tryz.sizeOf0
 v0:=Tryz.zeroValue0
 t2:=Tryz.underlying2
 a2:=Tryz.isAgg2
 z2:=Tryz.sizeOf2
 v2:=Tryz.zeroValue2
 t3:=Tryz.underlying3
 a3:=Tryz.isAgg3
 z3:=Tryz.sizeOf3
 v3:=Tryz.zeroValue3
 t4:=Tryz.underlying4
 a4:=Tryz.isAgg4
 z4:=Tryz.sizeOf4
 v4:=Tryz.zeroValue4
 t5:=Tryz.underlying5
 a5:=Tryz.isAgg5
 z5:=Tryz.sizeOf5
 v5:=Tryz.zeroValue5
 t9:=Tryz.underlying9
 a9:=Tryz.isAgg9
 z9:=Tryz.sizeOf9
 v9:=Tryz.zeroValue9
 t20:=Tryz.underlying20
 a20:=Tryz.isAgg20
 z20:=Tryz.sizeOf20
 v20:=Tryz.zeroValue20
 t21:=Tryz.underlying21
 a21:=Tryz.isAgg21
 z21:=Tryz.sizeOf21
 v21:=Tryz.zeroValue21
 t37:=Tryz.underlying23
 a37:=Tryz.isAgg23
 z37:=Tryz.sizeOf23
 v37:=Tryz.zeroValue23
 t46:=Tryz.underlying165
 a46:=Tryz.isAgg165
 z46:=Tryz.sizeOf165
 v46:=Tryz.zeroValue165
 t51:=Tryz.underlying142
 a51:=Tryz.isAgg142
 z51:=Tryz.sizeOf142
 v51:=Tryz.zeroValue142
 t53:=Tryz.underlying146
 a53:=Tryz.isAgg146
 z53:=Tryz.sizeOf146
 v53:=Tryz.zeroValue146
 t75:=Tryz.underlying152
 a75:=Tryz.isAgg152
 z75:=Tryz.sizeOf152
 v75:=Tryz.zeroValue152
 t76:=Tryz.underlying153
 a76:=Tryz.isAgg153
 z76:=Tryz.sizeOf153
 v76:=Tryz.zeroValue153
 t85:=Tryz.underlying299
 a85:=Tryz.isAgg299
 z85:=Tryz.sizeOf299
 v85:=Tryz.zeroValue299
 t127:=Tryz.underlying185
 a127:=Tryz.isAgg185
 z127:=Tryz.sizeOf185
 v127:=Tryz.zeroValue185
 t143:=Tryz.underlying319
 a143:=Tryz.isAgg319
 z143:=Tryz.sizeOf319
 v143:=Tryz.zeroValue319
 t145:=Tryz.underlying321
 a145:=Tryz.isAgg321
 z145:=Tryz.sizeOf321
 v145:=Tryz.zeroValue321
 t167:=Tryz.underlying298
 a167:=Tryz.isAgg298
 z167:=Tryz.sizeOf298
 v167:=Tryz.zeroValue298
 t168:=Tryz.underlying301
 a168:=Tryz.isAgg301
 z168:=Tryz.sizeOf301
 v168:=Tryz.zeroValue301
 t171:=Tryz.underlying314
 a171:=Tryz.isAgg314
 z171:=Tryz.sizeOf314
 v171:=Tryz.zeroValue314
 t173:=Tryz.underlying316
 a173:=Tryz.isAgg316
 z173:=Tryz.sizeOf316
 v173:=Tryz.zeroValue316
 t175:=Tryz.underlying308
 a175:=Tryz.isAgg308
 z175:=Tryz.sizeOf308
 v175:=Tryz.zeroValue308
 t210:=Tryz.underlying312
 a210:=Tryz.isAgg312
 z210:=Tryz.sizeOf312
 v210:=Tryz.zeroValue312
 t212:=Tryz.underlying323
 a212:=Tryz.isAgg323
 z212:=Tryz.sizeOf323
 v212:=Tryz.zeroValue323
 t213:=Tryz.underlying324
 a213:=Tryz.isAgg324
 z213:=Tryz.sizeOf324
 t232:=Tryz.underlying325
 a232:=Tryz.isAgg325
 z232:=Tryz.sizeOf325
 v232:=Tryz.zeroValue325
 t233:=Tryz.underlying326
 a233:=Tryz.isAgg326
 z233:=Tryz.sizeOf326
 v233:=Tryz.zeroValue326
 g15:=by kernel_rfl
 g16:=by kernel_rfl
 g17:=by kernel_rfl
 g18:=by kernel_rfl
 g19:=by kernel_rfl
 t80:=Tryz.underlying29
 a80:=Tryz.isAgg29
 z80:=Tryz.sizeOf29
 v80:=Tryz.zeroValue29
 i0:=by kernel_rfl
 i2:=by kernel_rfl
 i3:=by kernel_rfl
 i4:=by kernel_rfl
 i5:=by kernel_rfl
 i9:=by kernel_rfl
 i20:=by kernel_rfl
 i21:=by kernel_rfl
 i37:=by kernel_rfl
 i46:=by kernel_rfl
 i51:=by kernel_rfl
 i53:=by kernel_rfl
 i75:=by kernel_rfl
 i76:=by kernel_rfl
 i80:=by kernel_rfl
 i85:=by kernel_rfl
 i127:=by kernel_rfl
 i143:=by kernel_rfl
 i145:=by kernel_rfl
 i167:=by kernel_rfl
 i168:=by kernel_rfl
 i171:=by kernel_rfl
 i173:=by kernel_rfl
 i175:=by kernel_rfl
 i210:=by kernel_rfl
 i212:=by kernel_rfl
 i232:=by kernel_rfl
 i233:=by kernel_rfl
 m15:=by kernel_rfl
 m16:=by kernel_rfl
 m17:=by kernel_rfl
 m18:=by kernel_rfl
 m19:=by kernel_rfl
 c0:=by kernel_rfl
 c2:=by kernel_rfl
 c3:=by kernel_rfl
 c4:=by kernel_rfl
 c5:=by kernel_rfl
 c9:=by kernel_rfl
 c20:=by kernel_rfl
 c21:=by kernel_rfl
 c37:=by kernel_rfl
 c46:=by kernel_rfl
 c51:=by kernel_rfl
 c53:=by kernel_rfl
 c75:=by kernel_rfl
 c76:=by kernel_rfl
 c80:=by kernel_rfl
 c85:=by kernel_rfl
 c127:=by kernel_rfl
 c143:=by kernel_rfl
 c145:=by kernel_rfl
 c167:=by kernel_rfl
 c168:=by kernel_rfl
 c171:=by kernel_rfl
 c173:=by kernel_rfl
 c175:=by kernel_rfl
 c210:=by kernel_rfl
 c212:=by kernel_rfl
 c213:=by kernel_rfl
 c232:=by kernel_rfl
 c233:=by kernel_rfl }
open Go.RowKit in
theorem Tryz.strconv_Atoi_ok (s:ByteArray) (hmax:s.size≤9223372036854775806) (v:Int) (h:Lib.atoiAll s.data.toList = .ok v) (w:World) :
 Calls Tryz.prog 177 #[.string s] w fun e w'=>e = .returned (.tuple #[.int .i64 v,.nilIface])∧(w'=w ∨ ∃ t,w'=Lib.bytesWorld w 5 t):=Any.strconv_Atoi_ok Tryz.laysC172 s hmax v h w
open Go.RowKit in
theorem Tryz.strconv_Atoi_syntax (s:ByteArray) (hlim:s.size≤281474976710656) (h:Lib.atoiAll s.data.toList=Lib.atoiAll []) (ev:Value) (w:World) (hv:w.cell? ⟨3,0,none⟩=some ev) (hev:ev = .nilIface ∨ ∃ te pe,ev = .iface te pe) :
 Calls Tryz.prog 177 #[.string s] w fun e w'=>∃ N,e = .returned (.tuple #[.int .i64 (0),.iface 301 (.pointer (some ⟨N,0,none⟩))])∧w.heap.size≤N∧w'.heap[N]? = some (.cells #[.string ⟨#[65,116,111,105]⟩,.string s,ev] 312 (0,0))∧Below w.heap.size w w':=Any.strconv_Atoi_syntax Tryz.laysC172 s hlim h ev w hv hev
open Go.RowKit in
theorem Tryz.strconv_Atoi_range (s:ByteArray) (hlim:s.size≤281474976710656) (h:Lib.atoiAll s.data.toList = .range) (ev:Value) (w:World) (hv:w.cell? ⟨4,0,none⟩=some ev) (hev:ev = .nilIface ∨ ∃ te pe,ev = .iface te pe) :
 Calls Tryz.prog 177 #[.string s] w fun e w'=>∃ N,e = .returned (.tuple #[.int .i64 (Lib.atoiSat s.data.toList),.iface 301 (.pointer (some ⟨N,0,none⟩))])∧w.heap.size≤N∧w'.heap[N]? = some (.cells #[.string ⟨#[65,116,111,105]⟩,.string s,ev] 312 (0,0))∧Below w.heap.size w w':=Any.strconv_Atoi_range Tryz.laysC172 s hlim h ev w hv hev
end Go.Proofs
end
section
open Go.RowKit
namespace Go.Proofs.YtfflmmbhpchloaaGreatDoor
structure At (W:World) (p:Nat) (vs:List Value):Prop where
 lt:p < W.heap.size
 all:∀ i v,vs[i]? = some v→W.cell? ⟨p,i,none⟩=some v∧W.frozen? ⟨p,i,none⟩=false
def Bel (w W:World):Prop:=Below w.heap.size w W
theorem Bel.refl (w:World):Bel w w:=Below.refl _ _
theorem Bel.up {w W W':World} (h:Bel w W) (hb:Hid (Below W.heap.size W W')):Bel w W':=Below.trans h (hb.out.mono (Below.size h))
theorem Bel.al {w W:World} (h:Bel w W) (o:Obj):Bel w (W.alloc o):=Below.alloc h (Below.size h) o
theorem Bel.dr {w W:World} (h:Bel w W):Bel w W.drew:=Below.drew h
theorem Bel.hid {w W:World} (h:Bel w W):Hid (Below w.heap.size w W):=h
theorem Bel.of {w W:World} (h:Hid (Below w.heap.size w W)):Bel w W:=h
section
variable {W W':World} {p:Nat} {u v x:Value} {vs:List Value}
theorem At.up (h:At W p vs) (hb:Hid (Below W.heap.size W W')):At W' p vs :=
 ⟨Nat.lt_of_lt_of_le h.lt hb.out.size,fun i v hv=>⟨(hb.out.cell h.lt).trans (h.all i v hv).1,(hb.out.frozen h.lt).trans (h.all i v hv).2⟩⟩
theorem At.al (h:At W p vs) (o:Obj):At (W.alloc o) p vs:=h.up ((Below.refl _ _).alloc (Nat.le_refl _) o)
theorem At.dr (h:At W p vs):At W.drew p vs:=⟨h.lt,h.all⟩
theorem At.c0 (h:At W p (v :: vs)):W.cell? ⟨p,0,none⟩=some v:=(h.all 0 v rfl).1
theorem At.c1 (h:At W p (u :: v :: vs)):W.cell? ⟨p,1,none⟩=some v:=(h.all 1 v rfl).1
theorem At.c2 (h:At W p (x :: u :: v :: vs)):W.cell? ⟨p,2,none⟩=some v:=(h.all 2 v rfl).1
theorem At.f0 (h:At W p (v :: vs)):W.frozen? ⟨p,0,none⟩=false:=(h.all 0 v rfl).2
theorem At.f1 (h:At W p (u :: v :: vs)):W.frozen? ⟨p,1,none⟩=false:=(h.all 1 v rfl).2
theorem At.f2 (h:At W p (x :: u :: v :: vs)):W.frozen? ⟨p,2,none⟩=false:=(h.all 2 v rfl).2
theorem at_new0 (W:World) (vs:List Value) (t:TypeId):At (W.alloc (.cells vs.toArray t)) W.heap.size vs:=by
 have h:(W.alloc (.cells vs.toArray t)).heap[W.heap.size]? = some (.cells vs.toArray t (0,0)):=heap_alloc_new W _
 refine ⟨by simp,fun i v hv=>⟨?_,by unfold World.frozen?;rw [h];simp⟩⟩
 rw [cell_of_row _ _ i _ t (0,0) h]
 simpa using hv
theorem at_size {W X:World} {p:Nat} {vs:List Value} (h:At X W.heap.size vs) (e:W.heap.size=p):At X p vs:=e ▸ h
theorem at_new1 (W:World) (o:Obj) (vs:List Value) (t:TypeId):At ((W.alloc o).alloc (.cells vs.toArray t)) (W.heap.size + 1) vs:=at_size (at_new0 (W.alloc o) vs t) (by simp)
theorem at_new2 (W:World) (o o1:Obj) (vs:List Value) (t:TypeId):At (((W.alloc o).alloc o1).alloc (.cells vs.toArray t)) (W.heap.size + 1 + 1) vs:=at_size (at_new0 ((W.alloc o).alloc o1) vs t) (by simp)
theorem at_new3 (W:World) (o o1 o2:Obj) (vs:List Value) (t:TypeId):At ((((W.alloc o).alloc o1).alloc o2).alloc (.cells vs.toArray t)) (W.heap.size + 1 + 1 + 1) vs:=at_size (at_new0 (((W.alloc o).alloc o1).alloc o2) vs t) (by simp)
theorem at_new4 (W:World) (o o1 o2 o3:Obj) (vs:List Value) (t:TypeId):At (((((W.alloc o).alloc o1).alloc o2).alloc o3).alloc (.cells vs.toArray t)) (W.heap.size + 1 + 1 + 1 + 1) vs:=at_size (at_new0 ((((W.alloc o).alloc o1).alloc o2).alloc o3) vs t) (by simp)
theorem At.far {q i:Nat} (h:At W p vs) (hq:q ≠ p) (u:Value):At (W.setCell ⟨q,i,none⟩ u) p vs :=
 ⟨by have:=h.lt;simpa [World.setCell] using this,fun j v hv=>⟨(World.cell?_setCell_far _ _ _ _ hq).trans (h.all j v hv).1,by rw [World.frozen?_setCell];exact (h.all j v hv).2⟩⟩
theorem At.put {i:Nat} (h:At W p vs) (hi:i < vs.length) (u:Value):At (W.setCell ⟨p,i,none⟩ u) p (vs.set i u):=by
 refine ⟨by have:=h.lt;simpa [World.setCell] using this,fun j v hv=>?_⟩
 by_cases e:i=j
 ·subst e
  rw [List.getElem?_set_self hi] at hv
  injection hv with hv
  obtain ⟨h1,h2⟩:=h.all i _ (List.getElem?_eq_getElem hi)
  exact ⟨by rw [← hv];exact World.cell?_setCell_same _ _ _ h1,by rw [World.frozen?_setCell];exact h2⟩
 ·rw [List.getElem?_set_ne e] at hv
  exact ⟨(World.cell?_setCell_other _ _ _ _ (by intro h3;injection h3 with _ h4;exact e h4)).trans (h.all j v hv).1,by rw [World.frozen?_setCell];exact (h.all j v hv).2⟩
theorem At.ci (h:At W p vs) {i:Nat} (hi:vs[i]? = some v):W.cell? ⟨p,i,none⟩=some v:=(h.all i v hi).1
theorem At.fi (h:At W p vs) {i:Nat} (hi:vs[i]? = some v):W.frozen? ⟨p,i,none⟩=false:=(h.all i v hi).2
end
def RetB (W:World) (b:Bool) (e:Ending) (w':World):Prop:=e = .returned (.bool b)∧Bel W w'
structure Tabs (w:World):Prop where
 pow : Lib.TabIs Tryz.prog w "internal/strconv.uint64pow10" .u64 Lib.pow10Tab
 syn:∃ te pe,w.cell? ⟨3,0,none⟩=some (.iface te pe)
 ran:∃ te pe,w.cell? ⟨4,0,none⟩=some (.iface te pe)
theorem tabs_g : Tryz.prog.globalNamed "internal/strconv.uint64pow10" = some 5 := by kernel_rfl
theorem Tabs.up {w w':World} (h:Tabs w) (hb:Hid (Below w.heap.size w w')):Tabs w':=by
 obtain ⟨h1,⟨t2,p2,h2⟩,⟨t3,p3,h3⟩⟩:=h
 refine ⟨?_,⟨t2,p2,(hb.out.cell (World.block_lt_of_cell? _ _ h2)).trans h2⟩,⟨t3,p3,(hb.out.cell (World.block_lt_of_cell? _ _ h3)).trans h3⟩⟩
 unfold Lib.TabIs at h1 ⊢
 simp only [World.var?,tabs_g,Option.bind_some] at h1 ⊢
 cases hc:w.heap[5]? with
 | none=>rw [hc] at h1;cases h1
 | some o =>
   rw [hb.out.block _ (Array.getElem?_eq_some_iff.1 hc).1]
   exact h1
theorem itoa_t {n:Int} (h0:-9223372036854775808≤n) (h1:n≤9223372036854775807) {w:World} (ht:Tabs w) :
 Calls Tryz.prog 178 #[.int .i64 n] w fun e w'=>e = .returned (.string ⟨(Lib.itoa n).toArray⟩)∧Bel w w':=by
 refine (Tryz.strconv_Itoa n h0 h1 w ht.pow).mono fun e w' ⟨he,k,os,hw⟩=>⟨he,?_⟩
 rw [hw]
 exact ⟨rfl,rfl,rfl,by simp [Go.Sort.grow,World.drewN],fun j hj=>by simp [Go.Sort.grow,World.drewN,Array.getElem?_append,hj]⟩
def AtoiR (W:World) (o:Option Int) (e:Ending) (w':World):Prop:=match o with
 | some v=>e = .returned (.tuple #[.int .i64 v,.nilIface])∧Bel W w'
 | none=>∃ v te pe,e = .returned (.tuple #[.int .i64 v,.iface te pe])∧Bel W w'
def atoiD (s:ByteArray):Option Int:=match Lib.atoiAll s.data.toList with
 | .ok v=>some v
 | _=>none
theorem bel_bytes (w:World) (t:TypeId) (s:ByteArray):Bel w (Lib.bytesWorld w t s) :=
 ⟨rfl,rfl,rfl,by rw [Lib.bytesWorld_size];omega,fun j hj=>Lib.bytesWorld_at_old w t s j hj⟩
theorem atoi_t {s:ByteArray} {w:World} (hs:s.size≤281474976710656) (ht:Tabs w):Calls Tryz.prog 177 #[.string s] w (AtoiR w (atoiD s)):=by
 obtain ⟨_,⟨t2,p2,h2⟩,⟨t3,p3,h3⟩⟩:=ht
 unfold atoiD
 rcases h:Lib.atoiAll s.data.toList with v | _ | _
 ·refine (Tryz.strconv_Atoi_ok s (by omega) v h w).mono fun e w' ⟨he,hw⟩=>⟨he,?_⟩
  rcases hw with rfl | ⟨t,rfl⟩
  ·exact Bel.refl _
  ·exact bel_bytes _ _ _
 ·refine (Tryz.strconv_Atoi_syntax s hs h _ w h2 (.inr ⟨_,_,rfl⟩)).mono fun e w' ⟨N,he,_,_,hb⟩=>⟨_,_,_,he,hb⟩
 ·refine (Tryz.strconv_Atoi_range s hs h _ w h3 (.inr ⟨_,_,rfl⟩)).mono fun e w' ⟨N,he,_,_,hb⟩=>⟨_,_,_,he,hb⟩
end Go.Proofs.YtfflmmbhpchloaaGreatDoor
end
section
open Go.ChangeShapes Go.WideShapes Go.ChangeAt Go.RowKit
namespace Go.Proofs.YtfflmmbhpchloaaGreatDoor
theorem own:ownKnob Tryz.prog.godebug=none:=by kernel_rfl
def cellsOfLits:List (DataW Unit)→List Value
 | []=>[]
 | .lit (.int k n) :: l=>.int k n :: cellsOfLits l
 | _ :: l=>cellsOfLits l
def cellsOfTab:DataW Unit→List Value
 | .agg l=>cellsOfLits l
 | _=>[]
def rangesCells:List Value:=([128,191,160,191,128,159,144,191,128,143,0,0,0,0,0,0,0,0,0,0,0,0,0,0,0,0,0,0,0,0,0,0]:List Int).map (Value.int .u8)
def layTab (cs:Array Value):Obj→Obj
 | .cells _ t frozen=>.cells cs t frozen
 | o=>o
def errCell (b:Nat):Array Value:=#[.iface 319 (.pointer (some ⟨b,0,none⟩))]
noncomputable def laidWorld (os:Os):World :=
 { World.holding Tryz.prog os ⟨#[],#[],[]⟩ with heap:=((((((((((World.holding Tryz.prog os ⟨#[],#[],[]⟩).heap.modify 6 (layTab (cellsOfTab Rows.laid_math_bits_deBruijn32tab).toArray)).modify 7 (layTab (cellsOfTab Rows.laid_math_bits_deBruijn64tab).toArray)).modify 5 (layTab (cellsOfTab Rows.laid_internal_strconv_uint64pow10).toArray)).modify 2 (layTab rangesCells.toArray)).modify 1 (layTab (cellsOfTab Rows.laid_unicode_utf8_first).toArray)).modify 4 (layTab (errCell (World.holding Tryz.prog os ⟨#[],#[],[]⟩).heap.size))).modify 3 (layTab (errCell ((World.holding Tryz.prog os ⟨#[],#[],[]⟩).heap.size + 1)))).push (.cells #[.string ⟨#[118,97,108,117,101,32,111,117,116,32,111,102,32,114,97,110,103,101]⟩] 321)).push (.cells #[.string ⟨#[105,110,118,97,108,105,100,32,115,121,110,116,97,120]⟩] 321)) }
theorem err_star : "*" ++ "errors.errorString" = "*errors.errorString" := by decide
theorem err_row (u : TypeId) (h : Tryz.prog.typeName? 3 u = some "*errors.errorString") : u = 319 :=
 typeName_ptr_named (nm := "errors.errorString") (by rw [err_star]; kernel_rfl) (by kernel_rfl) (by decide) u (by rw [err_star]; exact h)
theorem err_at {W : World} {n : String} {g : Nat} {text : List UInt8} (h : laidMet Tryz.prog [(n, .iface "*errors.errorString" (.ptr (.agg [.lit (.string text)])))] W) (hg : Tryz.prog.globalNamed n = some g) (ht : (Tryz.prog.globals[g]?).map (·.type) = some 152) : ∃ te pe, W.cell? ⟨g, 0, none⟩ = some (.iface te pe) := by
 obtain ⟨a0,s0,hv0,-,-,-⟩:=laid_sentinel h hg ht Tryz.underlying152 err_row Tryz.underlying319 Tryz.underlying321 rfl rfl Tryz.underlying9 (by kernel_rfl) (by kernel_rfl)
 exact ⟨_,_,by have h0:=World.var?_cell hg hv0 0;simpa using h0⟩
theorem tabs_of {W:World} {l:List (String × DataW Unit)} (hL:laidMetH Tryz.prog l W) (hl:List.filter (fun x=>x.2.handleName?.isNone) l=Rows.tableAliasRow.laid):Tabs W:=by
 have h1:=(laidMetH_iff.1 hL).1
 rw [hl] at h1
 refine ⟨?_,?_,?_⟩
 ·have h2 := h1.filter (fun x => x.1 == "internal/strconv.uint64pow10")
  have e : List.filter (fun x : String × DataW Unit => x.1 == "internal/strconv.uint64pow10") Rows.tableAliasRow.laid = [("internal/strconv.uint64pow10", Lib.tabData .u64 Lib.pow10Tab)] := by kernel_rfl
  rw [e] at h2
  exact Lib.tabIs_of_head (t:=323) (e:=146) (n:=20) tabs_g (by kernel_rfl) Tryz.underlying323 Tryz.underlying146 (by kernel_rfl) (by kernel_rfl) h2
 ·have h2 := h1.filter (fun x => x.1 == "strconv.ErrSyntax")
  have e : List.filter (fun x : String × DataW Unit => x.1 == "strconv.ErrSyntax") Rows.tableAliasRow.laid = [("strconv.ErrSyntax", .iface "*errors.errorString" (.ptr (.agg [.lit (.string [105, 110, 118, 97, 108, 105, 100, 32, 115, 121, 110, 116, 97, 120])])))] := by kernel_rfl
  rw [e] at h2
  exact err_at h2 (by kernel_rfl) (by kernel_rfl)
 ·have h2 := h1.filter (fun x => x.1 == "strconv.ErrRange")
  have e : List.filter (fun x : String × DataW Unit => x.1 == "strconv.ErrRange") Rows.tableAliasRow.laid = [("strconv.ErrRange", .iface "*errors.errorString" (.ptr (.agg [.lit (.string [118, 97, 108, 117, 101, 32, 111, 117, 116, 32, 111, 102, 32, 114, 97, 110, 103, 101])])))] := by kernel_rfl
  rw [e] at h2
  exact err_at h2 (by kernel_rfl) (by kernel_rfl)
end Go.Proofs.YtfflmmbhpchloaaGreatDoor
end
section
namespace Go.Proofs.YtfflmmbhpchloaaGreatDoor
def wdig (c:UInt8):Bool:=decide (48≤c) && decide (c≤57)
def wchar (c:UInt8):Bool:=(decide (97≤c) && decide (c≤122)) || wdig c
def goodW (l:List UInt8):Bool:=decide (1≤l.length) && (decide (l.length≤20) && l.all wchar)
def numW (l:List UInt8):Bool:=decide (1≤l.length) && (decide (l.length≤20) && (l.all wdig && decide (l.head? ≠ some 48)))
section
variable {α:Type} {a:α}
def glue (a:α):List (List α)→List α
 | []=>[]
 | [p]=>p
 | p :: q :: r=>p ++ a :: glue a (q :: r)
theorem glue_cons (p:List α) {r:List (List α)} (h:r ≠ []):glue a (p :: r)=p ++ a :: glue a r:=by
 cases r with
 | nil=>exact absurd rfl h
 | cons q r=>rfl
end
def cutBy {α:Type} [DecidableEq α] (a:α):List α→List (List α)
 | []=>[[]]
 | c :: l=>if c=a then [] :: cutBy a l else match cutBy a l with
   | []=>[[c]]
   | p :: ps=>(c :: p) :: ps
section
variable {α:Type} [DecidableEq α] {a:α}
theorem cutBy_nil:cutBy a []=[[]]:=rfl
theorem cutBy_hit (l:List α):cutBy a (a :: l)=[] :: cutBy a l:=by simp [cutBy]
theorem cutBy_ne (l:List α):cutBy a l ≠ []:=by
 cases l with
 | nil=>simp [cutBy]
 | cons c l =>
   unfold cutBy
   split
   ·simp
   ·split <;> simp
theorem cutBy_miss {c:α} (h:c ≠ a) {l p:List α} {ps:List (List α)} (hl:cutBy a l=p :: ps):cutBy a (c :: l)=(c :: p) :: ps:=by
 rw [cutBy,if_neg h,hl]
theorem cutBy_form (l:List α):∃ p ps,cutBy a l=p :: ps:=by
 cases h:cutBy a l with
 | nil=>exact absurd h (cutBy_ne l)
 | cons p ps=>exact ⟨p,ps,rfl⟩
def cutMore (a c:α) (r:List (List α)):List (List α):=if c=a then r ++ [[]] else r.dropLast ++ [r.getLastD [] ++ [c]]
theorem cutMore_cons {p:List α} {r:List (List α)} (hr:r ≠ []) (c:α):cutMore a c (p :: r)=p :: cutMore a c r:=by
 unfold cutMore
 cases r with
 | nil=>exact absurd rfl hr
 | cons q r=>split <;> simp [List.getLastD]
theorem cutBy_snoc (l:List α) (c:α):cutBy a (l ++ [c])=cutMore a c (cutBy a l):=by
 induction l with
 | nil =>
   by_cases h:c=a
   ·subst h;simp [cutBy,cutMore]
   ·simp [cutBy,cutMore,h]
 | cons d l ih =>
   by_cases h:d=a
   ·subst h
    rw [List.cons_append,cutBy_hit,cutBy_hit,ih,cutMore_cons (cutBy_ne l)]
   ·obtain ⟨p,ps,hp⟩:=cutBy_form (a:=a) l
    rw [cutBy_miss h hp,List.cons_append]
    cases ps with
    | nil =>
      rw [hp] at ih
      by_cases hc:c=a
      ·subst hc
       have e:cutMore c c [p]=p :: [[]]:=by simp [cutMore]
       rw [e] at ih
       rw [cutBy_miss h ih];simp [cutMore]
      ·have e:cutMore a c [p]=(p ++ [c]) :: []:=by simp [cutMore,hc]
       rw [e] at ih
       rw [cutBy_miss h ih];simp [cutMore,hc]
    | cons q qs =>
      rw [hp,cutMore_cons (List.cons_ne_nil q qs)] at ih
      rw [cutBy_miss h ih,cutMore_cons (List.cons_ne_nil q qs)]
theorem cutBy_length (l:List α):(cutBy a l).length=l.count a + 1:=by
 induction l with
 | nil=>rfl
 | cons c l ih =>
   by_cases h:c=a
   ·subst h;rw [cutBy_hit];simp [ih]
   ·obtain ⟨p,ps,hp⟩:=cutBy_form (a:=a) l
    rw [cutBy_miss h hp,List.count_cons_of_ne (by simpa using h),← ih,hp];rfl
theorem cutBy_le (l:List α):(cutBy a l).length≤l.length + 1:=by
 rw [cutBy_length];have:=List.count_le_length (a:=a) (l:=l);omega
theorem cutBy_total (l:List α):((cutBy a l).map List.length).sum + l.count a=l.length:=by
 induction l with
 | nil=>rfl
 | cons c l ih =>
   by_cases h:c=a
   ·subst h;rw [cutBy_hit];simp;omega
   ·obtain ⟨p,ps,hp⟩:=cutBy_form (a:=a) l
    rw [cutBy_miss h hp,List.count_cons_of_ne (by simpa using h)]
    rw [hp] at ih
    simp at ih ⊢;omega
theorem cutBy_mem (l:List α):∀ p ∈ cutBy a l,∀ x ∈ p,x ∈ l:=by
 induction l with
 | nil=>intro p hp;simp [cutBy] at hp;subst hp;simp
 | cons c l ih =>
   by_cases h:c=a
   ·subst h;rw [cutBy_hit]
    intro p hp x hx
    rcases List.mem_cons.1 hp with rfl | hp
    ·simp at hx
    ·exact List.mem_cons_of_mem _ (ih p hp x hx)
   ·obtain ⟨p,ps,hp⟩:=cutBy_form (a:=a) l
    rw [cutBy_miss h hp]
    rw [hp] at ih
    intro q hq x hx
    rcases List.mem_cons.1 hq with rfl | hq
    ·rcases List.mem_cons.1 hx with rfl | hx
     ·simp
     ·exact List.mem_cons_of_mem _ (ih p (by simp) x hx)
    ·exact List.mem_cons_of_mem _ (ih q (by simp [hq]) x hx)
theorem glue_cutBy (l:List α):glue a (cutBy a l)=l:=by
 induction l with
 | nil=>rfl
 | cons c l ih =>
   by_cases h:c=a
   ·subst h;rw [cutBy_hit,glue_cons _ (cutBy_ne l),ih];rfl
   ·obtain ⟨p,ps,hp⟩:=cutBy_form (a:=a) l
    rw [cutBy_miss h hp]
    rw [hp] at ih
    cases ps with
    | nil=>simp only [glue] at ih ⊢;rw [ih]
    | cons q qs=>rw [glue_cons _ (by simp)] at ih ⊢;rw [List.cons_append,ih]
theorem cutBy_plain {p:List α} (h:a ∉ p):cutBy a p=[p]:=by
 induction p with
 | nil=>rfl
 | cons c p ih =>
   simp only [List.mem_cons,not_or] at h
   rw [cutBy_miss (fun e=>h.1 e.symm) (ih h.2)]
theorem cutBy_lead {p:List α} (h:a ∉ p) (l:List α):cutBy a (p ++ a :: l)=p :: cutBy a l:=by
 induction p with
 | nil=>exact cutBy_hit l
 | cons c p ih =>
   simp only [List.mem_cons,not_or] at h
   rw [List.cons_append,cutBy_miss (fun e=>h.1 e.symm) (ih h.2)]
end
theorem join_glue (c:UInt8) (xs:List (List UInt8)):Lib.join xs [c]=glue c xs:=by
 induction xs with
 | nil=>rfl
 | cons x xs ih =>
   cases xs with
   | nil=>rw [Lib.join_one];rfl
   | cons y ys =>
     rw [glue_cons _ (by simp),← ih,Lib.join_cons,Lib.join_cons]
     simp [Lib.joinTail]
def parts (s:List UInt8):List (List UInt8):=cutBy 45 s
theorem index_hit (c:UInt8) (l:List UInt8):Lib.index (c :: l) [c]=0:=by
 have hix:Lib.index (c :: l) [c]=((0:Nat):Int):=by rw [Lib.index];simp [List.isPrefixOf]
 exact hix
theorem index_pass {b c:UInt8} (h:b ≠ c) (l:List UInt8):Lib.index (b :: l) [c]=if Lib.index l [c] == -1 then -1 else Lib.index l [c] + 1:=by
 have hp:([c]:List UInt8).isPrefixOf (b :: l)=false:=by simp [List.isPrefixOf,Ne.symm h]
 rw [Lib.index,hp];simp
theorem split_cut (c:UInt8) (s:List UInt8):Lib.split s [c]=cutBy c s:=by
 unfold Lib.split
 induction s with
 | nil=>rw [Lib.count_one];rfl
 | cons b l ih =>
   rw [Lib.count_one] at ih ⊢
   by_cases h:b=c
   ·subst h
    rw [cutBy_hit,List.count_cons_self,Lib.splitK,if_neg (by rw [index_hit];decide),index_hit,← ih]
    simp
   ·rw [List.count_cons_of_ne (by simpa using h)]
    obtain ⟨p,ps,hp⟩:=cutBy_form (a:=c) l
    rw [cutBy_miss h hp]
    rw [hp] at ih
    cases hk:l.count c with
    | zero =>
      rw [hk] at ih
      simp only [Lib.splitK] at ih ⊢
      injection ih with e1 e2
      rw [e1,e2]
    | succ k =>
      rw [hk] at ih
      have hne:¬ (Lib.index l [c] == -1)=true:=by
       intro e
       have h0:=Lib.count_miss (beq_iff_eq.1 e)
       rw [Lib.count_one,hk] at h0
       omega
      have hge:=Lib.index_ge l [c]
      have hne2:Lib.index l [c] ≠ -1:=fun e=>hne (beq_iff_eq.2 e)
      obtain ⟨i,hi⟩:∃ i:Nat,Lib.index l [c]=i:=⟨(Lib.index l [c]).toNat,by omega⟩
      rw [Lib.splitK,if_neg hne,hi] at ih
      rw [Lib.splitK,index_pass h,if_neg hne,hi]
      have hne3:¬ (((i:Int) + 1) == -1)=true:=by intro e;have:=beq_iff_eq.1 e;omega
      rw [if_neg hne3,show ((i:Int) + 1).toNat=i + 1 by omega]
      simp only [Int.toNat_natCast,Nat.add_zero,List.length_cons,List.length_nil,List.take_succ_cons] at ih ⊢
      injection ih with e1 e2
      rw [e1,← e2]
      simp
end Go.Proofs.YtfflmmbhpchloaaGreatDoor
end
