/- Each theorem here says its own conditions. -/
import Derived.Test.YtfflmmbhpchloaaGreatDoorGTpwc21
import Derived.Lib.SliceRun
import Derived.Ground.GgsProg
set_option maxRecDepth 100000
set_option maxHeartbeats 16000000
section
open Go.RowKit
namespace Go.Proofs.YtfflmmbhpchloaaGreatDoor
def RetCs (W:World) (l:List AL) (e:Ending) (w':World):Prop:=∃ A n c,n=l.length∧e = .returned (.slice A n c)∧Hid (w'.ownsRow W.heap.size 96 3 (.slice A n c) n (cellsA l))∧Hid (Below W.heap.size W w')
theorem cellsA_one:∀ (l:List AL),∀ u ∈ cellsA l,u.oneCell'=true
 | [],u,h=>by cases h
 | a :: l,u,h=>by
   rcases List.mem_append.1 (show u ∈ cellA a ++ cellsA l from h) with h | h
   ·simp [cellA] at h;rcases h with rfl | rfl | rfl <;> rfl
   ·exact cellsA_one l u h
theorem clone_any {W:World} {A:Option Addr} {n c:Nat} {l:List AL} (h:Cs W A (cellsA l)) (hn:n=l.length) (hN:n≤1000000) :
 Calls Tryz.prog 79 #[.slice A n c] W (RetCs W l):=by
 have q:∀ (w:World) (a:Option Addr) (n c n' c':Nat),(binOp .eql 39 (.slice a n c) (.slice none n' c')).run Tryz.prog w = .ok (.bool a.isNone) w:=fun w a n c n' c'=>Lib.run_eql_slice_nil w _ _ a n c n' c' Tryz.underlying39
 cases A with
 | none =>
   have h0:l=[]:=by
    rcases Nat.eq_zero_or_pos l.length with h0 | h0
    ·exact List.eq_nil_of_length_eq_zero h0
    ·obtain ⟨ad,e,_⟩:=h.out (by rw [cellsA_len];omega)
     cases e
   subst h0
   clear h hn
   go_enter Tryz.func79,Tryz.ntmps79
   go_wp2
   go_ret
   exact ⟨none,0,0,rfl,rfl,World.ownsRow_nil _ _ _ _,Below.refl _ _⟩
 | some ad =>
   have hb:0 < n→ad.block < W.heap.size:=fun h0=>by
    obtain ⟨ad',e,hb,_⟩:=h.out (by rw [cellsA_len];omega)
    cases e;exact hb
   have hc:∀ (j:Nat) (v:Value),(cellsA l)[j]? = some v→W.cell? (ad.add j)=some v∧ad.block < W.heap.size:=fun j v hj=>by
    have hl:j < (cellsA l).length:=(List.getElem?_eq_some_iff.1 hj).1
    obtain ⟨ad',e,hb,hc⟩:=h.out (by omega)
    cases e;exact ⟨hc j v hj,hb⟩
   obtain ⟨i0,hi,hz0,hz1,hz2⟩:=info_parts infoAtomP
   have HC:=khide hc
   have HNN:=khide hn
   have J0:=khide hi;have Y0:=khide hz0;have Y1:=khide hz1;have Y2:=khide hz2
   clear hc hn hb hi hz0 hz1 hz2 h
   go_enter Tryz.func79,Tryz.ntmps79
   go_wp2_with (at_builtin;refine wpList_append_own _ rfl _ _ 39 rfl W.heap.size 96 i0 (.agg #[.string ByteArray.empty,.string ByteArray.empty,.int .i64 0]) 3 40 Tryz.underlying39 J0.out Y0.out Y1.out Y2.out rfl (by decide) _ _ _ rfl (World.ownsRow_made W #[] 0 (Nat.le_refl _) (Nat.zero_le _) rfl) ad n c (cellsA l) rfl ?qc1 ?qc2 ?qc3 ?qc4 ?qc5 ?qc6 ?_)
   case qc1=>rw [cellsA_len,← HNN.out]
   case qc2 =>
    intro j u hj
    obtain ⟨h1,h2⟩:=HC.out j u hj
    rw [World.cell?_alloc_lt W _ _ (by rw [yblock_add];exact h2)]
    exact h1
   case qc3=>exact cellsA_one l
   case qc4=>unfold maxLen;omega
   case qc5=>omega
   case qc6=>simp
   intro v' w1 hown hgrow hnil
   have hown2:w1.ownsRow W.heap.size 96 3 v' n (cellsA l):=by simpa using hown
   obtain ⟨A',cap,rfl,_⟩:=own_slice hown2
   go_wp2
   go_ret
   exact ⟨A',n,cap,HNN.out,rfl,hown2,((Below.refl _ W).alloc (Nat.le_refl _) _).grown hgrow (by simp) (by intro k hk;simp [Value.ownBlock] at hk;omega)⟩
abbrev HK (W:World) (g:Nat) (d:Array AL):Prop:=Sort.HoldsK cellA 3 W g 0 d
theorem flat_cells (d:Array AL) (t:Nat) (h:t < d.size * 3):(cellsA d.toList)[t]? = some (Sort.flatK cellA 3 d)[t]!:=by
 rw [Sort.get_flatK _ _ _ _ h]
 have hq:t / 3 < d.size:=by omega
 have hd:d.toList[t / 3]? = some d[t / 3]!:=by
  rw [Array.getElem?_toList,Array.getElem?_eq_getElem hq,getElem!_pos d _ hq]
 obtain ⟨c0,c1,c2⟩:=cellsA_get hd
 have e:t=t / 3 * 3 + t % 3:=by omega
 have h3:t % 3=0 ∨ t % 3=1 ∨ t % 3=2:=by omega
 rcases h3 with h3 | h3 | h3
 ·rw [h3];rw [h3] at e;rw [e];rw [show (t / 3 * 3 + 0) / 3=t / 3 by omega];exact c0
 ·rw [h3];rw [h3] at e;rw [e];rw [show (t / 3 * 3 + 1) / 3=t / 3 by omega];exact c1
 ·rw [h3];rw [h3] at e;rw [e];rw [show (t / 3 * 3 + 2) / 3=t / 3 by omega];exact c2
theorem hk_at {W:World} {g:Nat} {d:Array AL} (h:HK W g d) (i:Nat) (v:Value) (hv:(cellsA d.toList)[i]? = some v):W.cell? ⟨g,i,none⟩=some v∧W.frozen? ⟨g,i,none⟩=false:=by
 have hl:i < d.size * 3:=by
  have:=(List.getElem?_eq_some_iff.1 hv).1
  rw [cellsA_len] at this
  simpa using this
 rw [flat_cells d i hl] at hv
 injection hv with hv
 have:=h i (by simpa using hl)
 rw [Nat.zero_add] at this
 exact ⟨by rw [← hv];exact this.1,this.2⟩
theorem hk_of {W:World} {g:Nat} {d:Array AL} (h:At W g (cellsA d.toList)):HK W g d:=fun t ht=>by
 have hl:t < d.size * 3:=by simpa using ht
 rw [Nat.zero_add]
 exact h.all t _ (flat_cells d t hl)
theorem at_of_own {W:World} {base n c g:Nat} {xs:List Value} {e:TypeId} {s:Nat} (h:W.ownsRow base e s (.slice (some ⟨g,0,none⟩) n c) n xs):At W g xs∧base≤g:=by
 rcases h.2 with ⟨h0,_⟩ | ⟨g',cap,cur,h0,hb,hg,h3,h4,h5,h6⟩
 ·cases h0
 ·cases h0
  refine ⟨⟨(Array.getElem?_eq_some_iff.1 hg).1,fun i v hv=>⟨?_,by unfold World.frozen?;rw [hg];simp⟩⟩,hb⟩
  rw [cell_of_row _ _ i _ e (0,0) hg]
  rw [← h6,List.getElem?_take] at hv
  split at hv
  ·rw [Array.getElem?_toList] at hv;exact hv
  ·cases hv
end Go.Proofs.YtfflmmbhpchloaaGreatDoor
end
section
namespace Go.Proofs
open Go.Shelf
def Tryz.laysGg6_ren:Go.Shelf.Ren:=⟨fun | 6=>80 | 10=>109 | 11=>110 | 12=>111 | 13=>112 | 14=>113 | 24=>163 | 25=>164 | 26=>165 | 27=>166 | 28=>167 | 29=>168 | 30=>169 | 31=>170 | 32=>171 | 33=>172 | 34=>202 | 35=>203 | 36=>204 | 37=>205 | 38=>206 | 39=>223 | n=>n,fun | 20=>20 | 26=>164 | 35=>198 | 0=>0 | 37=>200 | 3=>3 | 41=>165 | 44=>206 | 49=>142 | 51=>146 | 4=>4 | 54=>247 | 53=>246 | 58=>137 | 5=>5 | 9=>9 | 60=>272 | 64=>276 | 66=>293 | 67=>264 | 17=>17 | 32=>195 | 33=>196 | 82=>338 | 12=>12 | 75=>332 | 76=>333 | 77=>334 | 78=>185 | 79=>335 | 80=>336 | n=>n,fun | n=>n⟩
theorem Tryz.laysGg6:Go.Proofs.LaysGg.n6 Tryz.prog Tryz.laysGg6_ren:={
 mixed:=by kernel_rfl
 f6:=Tryz.func80.trans (congrArg some (by kernel_rfl))
 f10:=Tryz.func109.trans (congrArg some (by kernel_rfl))
 f11:=Tryz.func110.trans (congrArg some (by kernel_rfl))
 f12:=Tryz.func111.trans (congrArg some (by kernel_rfl))
 f13:=Tryz.func112.trans (congrArg some (by kernel_rfl))
 f14:=Tryz.func113.trans (congrArg some (by kernel_rfl))
 f24:=Tryz.func163.trans (congrArg some (by kernel_rfl))
 f25:=Tryz.func164.trans (congrArg some (by kernel_rfl))
 f26:=Tryz.func165.trans (congrArg some (by kernel_rfl))
 f27:=Tryz.func166.trans (congrArg some (by kernel_rfl))
 f28:=Tryz.func167.trans (congrArg some (by kernel_rfl))
 f29:=Tryz.func168.trans (congrArg some (by kernel_rfl))
 f30:=Tryz.func169.trans (congrArg some (by kernel_rfl))
 f31:=Tryz.func170.trans (congrArg some (by kernel_rfl))
 f32:=Tryz.func171.trans (congrArg some (by kernel_rfl))
 f33:=Tryz.func172.trans (congrArg some (by kernel_rfl))
 f34:=Tryz.func202.trans (congrArg some (by kernel_rfl))
 f35:=Tryz.func203.trans (congrArg some (by kernel_rfl))
 f36:=Tryz.func204.trans (congrArg some (by kernel_rfl))
 f37:=Tryz.func205.trans (congrArg some (by kernel_rfl))
 f38:=Tryz.func206.trans (congrArg some (by kernel_rfl))
 f39:=Tryz.func223.trans (congrArg some (by kernel_rfl))
 t0:=Tryz.underlying0
 a0:=Tryz.isAgg0
 z0:=Tryz.sizeOf0
 v0:=Tryz.zeroValue0
 i0:=by kernel_rfl
 t3:=Tryz.underlying3
 a3:=Tryz.isAgg3
 z3:=Tryz.sizeOf3
 v3:=Tryz.zeroValue3
 i3:=by kernel_rfl
 t4:=Tryz.underlying4
 a4:=Tryz.isAgg4
 z4:=Tryz.sizeOf4
 v4:=Tryz.zeroValue4
 i4:=by kernel_rfl
 t5:=Tryz.underlying5
 a5:=Tryz.isAgg5
 z5:=Tryz.sizeOf5
 v5:=Tryz.zeroValue5
 i5:=by kernel_rfl
 t9:=Tryz.underlying9
 a9:=Tryz.isAgg9
 z9:=Tryz.sizeOf9
 v9:=Tryz.zeroValue9
 i9:=by kernel_rfl
 t12:=Tryz.underlying12
 a12:=Tryz.isAgg12
 z12:=Tryz.sizeOf12
 v12:=Tryz.zeroValue12
 i12:=by kernel_rfl
 t17:=Tryz.underlying17
 a17:=Tryz.isAgg17
 z17:=Tryz.sizeOf17
 v17:=Tryz.zeroValue17
 i17:=by kernel_rfl
 t20:=Tryz.underlying20
 a20:=Tryz.isAgg20
 z20:=Tryz.sizeOf20
 v20:=Tryz.zeroValue20
 i20:=by kernel_rfl
 t26:=Tryz.underlying164
 a26:=Tryz.isAgg164
 z26:=Tryz.sizeOf164
 v26:=Tryz.zeroValue164
 i26:=by kernel_rfl
 t32:=Tryz.underlying195
 a32:=Tryz.isAgg195
 z32:=Tryz.sizeOf195
 v32:=Tryz.zeroValue195
 i32:=by kernel_rfl
 t33:=Tryz.underlying196
 a33:=Tryz.isAgg196
 z33:=Tryz.sizeOf196
 v33:=Tryz.zeroValue196
 i33:=by kernel_rfl
 t35:=Tryz.underlying198
 a35:=Tryz.isAgg198
 z35:=Tryz.sizeOf198
 v35:=Tryz.zeroValue198
 i35:=by kernel_rfl
 t37:=Tryz.underlying200
 a37:=Tryz.isAgg200
 z37:=Tryz.sizeOf200
 v37:=Tryz.zeroValue200
 i37:=by kernel_rfl
 t41:=Tryz.underlying165
 a41:=Tryz.isAgg165
 z41:=Tryz.sizeOf165
 v41:=Tryz.zeroValue165
 i41:=by kernel_rfl
 t44:=Tryz.underlying206
 a44:=Tryz.isAgg206
 z44:=Tryz.sizeOf206
 v44:=Tryz.zeroValue206
 i44:=by kernel_rfl
 t49:=Tryz.underlying142
 a49:=Tryz.isAgg142
 z49:=Tryz.sizeOf142
 v49:=Tryz.zeroValue142
 i49:=by kernel_rfl
 t51:=Tryz.underlying146
 a51:=Tryz.isAgg146
 z51:=Tryz.sizeOf146
 v51:=Tryz.zeroValue146
 i51:=by kernel_rfl
 t53:=Tryz.underlying246
 a53:=Tryz.isAgg246
 z53:=Tryz.sizeOf246
 v53:=Tryz.zeroValue246
 i53:=by kernel_rfl
 t54:=Tryz.underlying247
 a54:=Tryz.isAgg247
 z54:=Tryz.sizeOf247
 v54:=Tryz.zeroValue247
 i54:=by kernel_rfl
 t58:=Tryz.underlying137
 a58:=Tryz.isAgg137
 z58:=Tryz.sizeOf137
 v58:=Tryz.zeroValue137
 i58:=by kernel_rfl
 t60:=Tryz.underlying272
 a60:=Tryz.isAgg272
 z60:=Tryz.sizeOf272
 v60:=Tryz.zeroValue272
 i60:=by kernel_rfl
 t64:=Tryz.underlying276
 a64:=Tryz.isAgg276
 z64:=Tryz.sizeOf276
 v64:=Tryz.zeroValue276
 i64:=by kernel_rfl
 t66:=Tryz.underlying293
 a66:=Tryz.isAgg293
 z66:=Tryz.sizeOf293
 v66:=Tryz.zeroValue293
 i66:=by kernel_rfl
 t67:=Tryz.underlying264
 a67:=Tryz.isAgg264
 z67:=Tryz.sizeOf264
 v67:=Tryz.zeroValue264
 i67:=by kernel_rfl
 t75:=Tryz.underlying332
 a75:=Tryz.isAgg332
 z75:=Tryz.sizeOf332
 v75:=Tryz.zeroValue332
 i75:=by kernel_rfl
 t76:=Tryz.underlying333
 a76:=Tryz.isAgg333
 z76:=Tryz.sizeOf333
 v76:=Tryz.zeroValue333
 i76:=by kernel_rfl
 t77:=Tryz.underlying334
 a77:=Tryz.isAgg334
 z77:=Tryz.sizeOf334
 v77:=Tryz.zeroValue334
 i77:=by kernel_rfl
 t78:=Tryz.underlying185
 a78:=Tryz.isAgg185
 z78:=Tryz.sizeOf185
 v78:=Tryz.zeroValue185
 i78:=by kernel_rfl
 t79:=Tryz.underlying335
 a79:=Tryz.isAgg335
 z79:=Tryz.sizeOf335
 v79:=Tryz.zeroValue335
 i79:=by kernel_rfl
 t80:=Tryz.underlying336
 a80:=Tryz.isAgg336
 z80:=Tryz.sizeOf336
 v80:=Tryz.zeroValue336
 i80:=by kernel_rfl
 t82:=Tryz.underlying338
 a82:=Tryz.isAgg338
 z82:=Tryz.sizeOf338
 v82:=Tryz.zeroValue338
 i82:=by kernel_rfl }
end Go.Proofs
end
section
open Go.RowKit
namespace Go.Proofs.YtfflmmbhpchloaaGreatDoor
def RowR (W0:World) (b g:Nat) (A:Option Addr) (n c:Nat) (dk:Array AL) (W:World):Prop:=At W b [.slice A n c]∧(g < W.heap.size∧HK W g dk)∧Below W0.heap.size W0 W
theorem RowR.up {W0 W W':World} {b g n c:Nat} {A:Option Addr} {dk:Array AL} (h:RowR W0 b g A n c dk W) (hb:Bel W W'):RowR W0 b g A n c dk W':=by
 obtain ⟨h1,⟨h2,h3⟩,h4⟩:=h
 have hb':Below W.heap.size W W':=hb
 refine ⟨h1.up hb.hid,⟨Nat.lt_of_lt_of_le h2 hb'.size,fun t ht=>?_⟩,h4.trans (hb'.mono h4.size)⟩
 obtain ⟨k1,k2⟩:=h3 t ht
 exact ⟨(hb'.cell (show (⟨g,0 + t,none⟩:Addr).block < _ from h2)).trans k1,(hb'.frozen (show (⟨g,0 + t,none⟩:Addr).block < _ from h2)).trans k2⟩
theorem RowR.cs {W0 W:World} {b g n c:Nat} {A:Option Addr} {dk:Array AL} (h:RowR W0 b g A n c dk W) (hA:0 < n→A=some ⟨g,0,none⟩) (hn:dk.size=n):Cs W A (cellsA dk.toList):=fun h0=>by
 rw [cellsA_len,Array.length_toList,hn] at h0
 refine ⟨_,hA (by omega),h.2.1.1,fun j v hv=>?_⟩
 rw [Addr.add_lit,Nat.zero_add]
 exact (hk_at h.2.1.2 j v hv).1
theorem closure_any {W0 W:World} {b g n c:Nat} {A:Option Addr} {dk:Array AL} (h:RowR W0 b g A n c dk W) (hA:0 < n→A=some ⟨g,0,none⟩) (hn:dk.size=n) {i j:Nat} (hi:i < n) (hj:j < n) (hl:n≤1000000) :
 Calls Tryz.prog 81 #[.int .i64 i,.int .i64 j,.pointer (some ⟨b,0,none⟩)] W (RetB W (ltQ dk[i]! dk[j]!)):=by
 have hc:=h.cs hA hn
 obtain ⟨x,hx⟩:∃ x,dk[i]! = x:=⟨_,rfl⟩
 obtain ⟨y,hy⟩:∃ x,dk[j]! = x:=⟨_,rfl⟩
 have hx':dk.toList[i]? = some x:=by rw [Array.getElem?_toList,Array.getElem?_eq_getElem (by omega),← hx,getElem!_pos dk i (by omega)]
 have hy':dk.toList[j]? = some y:=by rw [Array.getElem?_toList,Array.getElem?_eq_getElem (by omega),← hy,getElem!_pos dk j (by omega)]
 rw [hx,hy]
 obtain ⟨ad,hA2,had,a0,a1,a2⟩:=cs_at3 hc hx'
 obtain ⟨bd,hB2,hbd,b0,b1,b2⟩:=cs_at3 hc hy'
 rw [hA2] at hB2
 obtain rfl:ad=bd:=Option.some.inj hB2
 subst hA2
 obtain ⟨p,nm,pk⟩:=x
 obtain ⟨p',nm',pk'⟩:=y
 have HP:=h.1
 obtain ⟨r,hr⟩:∃ r,ltQ (p,nm,pk) (p',nm',pk')=r:=⟨_,rfl⟩
 rw [hr]
 have C0:Hid (∀ W:World,Calls Tryz.prog 82 #[.agg #[.string p,.string nm,.int .i64 pk],.agg #[.string p',.string nm',.int .i64 pk']] W (RetB W r)):=fun W=>hr ▸ less_any p nm pk p' nm' pk' W
 have hb_0:=HP.c0;have hb_l:=HP.lt
 have k0:(i:Int) < (n:Int):=by omega
 have k1:(j:Int) < (n:Int):=by omega
 have k2:(0:Int)≤(i:Int):=by omega
 have k3:(0:Int)≤(j:Int):=by omega
 clear h hc hx hy hx' hy' hr hA HP hB2 hn had hbd
 go_enter Tryz.func81,Tryz.ntmps81
 go_upto_region 1 with fail
 go_region_with (first | (go_at_call 82;(with_reducible refine (C0.out _).mono ?_);rintro e w2 ⟨rfl,hb2⟩) | fail)
 all_goals go_wp2_with fail
 all_goals go_ret
 all_goals exact ⟨rfl,(Bel.refl W).dr.up hb2.hid⟩
theorem HK.far {W:World} {g:Nat} {dk:Array AL} (vs:List Value) (o:Nat) {p:Nat} (hp:p ≠ g) {us:List Value} (h:At W p us):At (W.setCells g o vs) p us:=by
 induction vs generalizing o W with
 | nil=>exact h
 | cons v r ih=>exact ih _ (h.far (Ne.symm hp) v)
theorem size_setCells (g:Nat):∀ (vs:List Value) (o:Nat) (W:World),(W.setCells g o vs).heap.size=W.heap.size
 | [],_,_=>rfl
 | v :: r,o,W=>by
   have:=size_setCells g r (o + 1) (W.setCell ⟨g,o,none⟩ v)
   rw [World.setCells,this];simp [World.setCell]
theorem below_setCells {B g:Nat} {W0:World} (hg:B≤g):∀ (vs:List Value) (o:Nat) (W:World),Below B W0 W→Below B W0 (W.setCells g o vs)
 | [],_,_,h=>h
 | v :: r,o,W,h=>by
   rw [World.setCells]
   exact below_setCells hg r (o + 1) _ (Below.setCell h (show B≤(⟨g,o,none⟩:Addr).block from hg) v)
theorem swap_any {W0 W:World} {b g n c:Nat} {A:Option Addr} {dk:Array AL} (h:RowR W0 b g A n c dk W) (hA:0 < n→A=some ⟨g,0,none⟩) (hn:dk.size=n) (h2:2≤n) (hbg:b ≠ g) (hW0:W0.heap.size≤g) {i j:Nat} (hi:i < n) (hj:j < n) :
 ∃ W',(callFunc (swF n) (#[.int .i64 i,.int .i64 j] ++ swB A n c)).run Tryz.prog W = .ok (.value (.tuple #[])) W'∧RowR W0 b g A n c (Sort.swp dk i j) W' ∧ ∀ p vs,p ≠ g→At W p vs→At W' p vs:=by
 obtain ⟨h1,⟨hg,h3⟩,h4⟩:=h
 obtain rfl:=hA (by omega)
 refine ⟨(W.setCells g (0 + i * 3) (cellA dk[j]!)).setCells g (0 + j * 3) (cellA dk[i]!),?_,⟨?_,⟨?_,?_⟩,?_⟩,fun p vs hp hv=>?_⟩
 ·have hsw:=swapSwapsK_of_literal (P:=Tryz.prog) (α:=AL) false 162 (fun args W=>run_callFunc_extern Tryz.func162 (by kernel_rfl) (by kernel_rfl) (by kernel_rfl) (e:=Extern.ReflectliteSwapper.swap false) (by kernel_rfl) args W) 96 atomE (by kernel_rfl) cellA 3 (fun _=>rfl) (by kernel_rfl) (fun _=>by kernel_rfl) (fun x v hv=>cellsA_one [x] v (by simpa [cellsA] using hv)) g 0 n c
  have:=hsw W dk h3 hn i j hi hj
  rw [show swF n=162 by unfold swF;rw [if_neg (by omega),if_neg (by omega)],show swB (some ⟨g,0,none⟩) n c = #[.slice (some ⟨g,0,none⟩) n c,typeHandle Tryz.prog 96] by unfold swB;rw [if_neg (by omega)]]
  exact this
 ·exact HK.far (dk:=dk) _ _ hbg (HK.far (dk:=dk) _ _ hbg h1)
 ·rw [size_setCells,size_setCells];exact hg
 ·have e1:Sort.putRowK cellA 3 (Sort.ahead W 0) g 0 dk=W:=Sort.putRowK_self _ _ _ _ _ _ h3
  have e2:=Sort.swap_worldK cellA 3 (fun _=>rfl) W 0 0 g 0 dk i j (by omega) (by omega)
  rw [e1] at e2
  have e3:W.drewN 0=W:=rfl
  rw [e3] at e2
  rw [e2]
  exact Sort.holdsK_putRowK _ _ _ _ _ dk _ h3 (by rw [Sort.size_swp])
 ·exact below_setCells hW0 _ _ _ (below_setCells hW0 _ _ _ h4)
 ·exact HK.far (dk:=dk) _ _ hp (HK.far (dk:=dk) _ _ hp hv)
theorem RowR.alloc {W0 W:World} {b g n c:Nat} {A:Option Addr} {dk:Array AL} (h:RowR W0 b g A n c dk W) (o:Obj):RowR W0 b g A n c dk (W.alloc o):=h.up ((Bel.refl W).al o)
theorem RowR.drew {W0 W:World} {b g n c:Nat} {A:Option Addr} {dk:Array AL} (h:RowR W0 b g A n c dk W):RowR W0 b g A n c dk W.drew:=h.up (Bel.refl W).dr
theorem sorts_any {W0:World} {b g n c:Nat} {A:Option Addr} (hA:0 < n→A=some ⟨g,0,none⟩) (hbg:0 < n→b ≠ g) (hW0:W0.heap.size≤g) (hl:n≤12):Sorts 81 #[.pointer (some ⟨b,0,none⟩)] (swF n) (swB A n c) n g (RowR W0 b g A n c) where
 less dk W h hn i j hi hj:=(closure_any h hA hn hi hj (by omega)).mono fun e w' ⟨h1,h2⟩=>⟨h1,h2,h.up h2⟩
 swap h2 dk W h hn i j hi hj:=swap_any h hA hn h2 (hbg (by omega)) hW0 hi hj
 alloc dk W o h:=h.alloc o
 drew dk W h:=h.drew
theorem slice_any {W0 W:World} {b g n c:Nat} {A:Option Addr} {d:Array AL} (h:RowR W0 b g A n c d W) (hs:d.size=n) (hA:0 < n→A=some ⟨g,0,none⟩) (hbg:0 < n→b ≠ g) (hW0:W0.heap.size≤g) (hl:n≤12) :
 Calls Tryz.prog 80 #[.iface 39 (.slice A n c),.func (.func 81) #[] #[.pointer (some ⟨b,0,none⟩)]] W fun e w'=>e = .returned (.tuple #[])∧RowR W0 b g A n c (Sort.insertionSort ltQ d 0 n) w':=by
 refine Any.sort_Slice_of_pdq Tryz.laysGg6 39 96 atomsT atomE (by kernel_rfl) (by kernel_rfl) (by kernel_rfl) (by kernel_rfl) 25 (fun _=>by kernel_rfl) A n c (by omega) (swF n) (swF_at n) (.func 81) #[] #[.pointer (some ⟨b,0,none⟩)] W _ ?_
 have hB:sliceBound Tryz.prog 96 atomE 25 A n c=swB A n c:=swB_at A n c
 rw [hB]
 have h2:RowR W0 b g A n c d (sliceWorld Tryz.prog Tryz.laysGg6_ren 39 A n c W):=by unfold sliceWorld;exact (h.alloc _).alloc _
 have hsz:g < (sliceWorld Tryz.prog Tryz.laysGg6_ren 39 A n c W).heap.size:=h2.2.1.1
 exact pdq_any (sorts_any hA hbg hW0 hl) (enters_of Tryz.func81 (by kernel_rfl) rfl) _ h2 hs hl hsz
def addQ (acc:List AL) (a:AL):Option (List AL):=match acc.getLast? with
 | none=>some (acc ++ [a])
 | some q=>if q.1=a.1∧q.2.1=a.2.1 then (if 15 < q.2.2 + a.2.2 then none else some (acc.dropLast ++ [(q.1,q.2.1,q.2.2 + a.2.2)])) else some (acc ++ [a])
def foldQ:List AL→List AL→Option (List AL)
 | acc,[]=>some acc
 | acc,a :: l=>match addQ acc a with
   | none=>none
   | some acc'=>foldQ acc' l
def combL (l:List AL):Option (List AL):=foldQ [] (sortQ l)
def PowsQ (l:List AL):Prop:=∀ a ∈ l,0≤a.2.2∧a.2.2≤1000000
theorem foldQ_no {acc s:List AL} {k:Nat} {a:AL} (h:s[k]? = some a) (ha:addQ acc a=none):foldQ acc (s.drop k)=none:=by
 obtain ⟨hk,he⟩:=List.getElem?_eq_some_iff.1 h
 rw [List.drop_eq_getElem_cons hk,he,foldQ,ha]
theorem foldQ_yes {acc acc' s:List AL} {k:Nat} {a:AL} (h:s[k]? = some a) (ha:addQ acc a=some acc'):foldQ acc (s.drop k)=foldQ acc' (s.drop (k + 1)):=by
 obtain ⟨hk,he⟩:=List.getElem?_eq_some_iff.1 h
 rw [List.drop_eq_getElem_cons hk,he,foldQ,ha]
theorem addQ_nil (a:AL):addQ [] a=some ([] ++ [a]):=rfl
theorem addQ_ne {acc:List AL} {q a:AL} (h:¬ (q.1=a.1∧q.2.1=a.2.1)):addQ (acc ++ [q]) a=some (acc ++ [q] ++ [a]):=by
 unfold addQ;rw [List.getLast?_append];simp only [List.getLast?_singleton,Option.some_or];rw [if_neg h]
theorem addQ_long {acc:List AL} {q a:AL} (h:q.1=a.1∧q.2.1=a.2.1) (hp:15 < q.2.2 + a.2.2):addQ (acc ++ [q]) a=none:=by
 unfold addQ;rw [List.getLast?_append];simp only [List.getLast?_singleton,Option.some_or];rw [if_pos h,if_pos hp]
theorem addQ_sum {acc:List AL} {q a:AL} (h:q.1=a.1∧q.2.1=a.2.1) (hp:¬ 15 < q.2.2 + a.2.2):addQ (acc ++ [q]) a=some (acc ++ [(q.1,q.2.1,q.2.2 + a.2.2)]):=by
 unfold addQ;rw [List.getLast?_append];simp only [List.getLast?_singleton,Option.some_or];rw [if_pos h,if_neg hp,List.dropLast_concat]
theorem pows_snoc {l:List AL} {a:AL} (h:PowsQ l) (ha:0≤a.2.2∧a.2.2≤1000000):PowsQ (l ++ [a]):=fun q hq=>by
 rcases List.mem_append.1 hq with hq | hq
 ·exact h q hq
 ·obtain rfl:=List.mem_singleton.1 hq;exact ha
theorem own_set {w:World} {base n c g i s:Nat} {e:TypeId} {xs:List Value} (h:w.ownsRow base e s (.slice (some ⟨g,0,none⟩) n c) n xs) (hi:i < xs.length) (u:Value):(w.setCell ⟨g,i,none⟩ u).ownsRow base e s (.slice (some ⟨g,0,none⟩) n c) n (xs.set i u):=by
 refine ⟨by rw [List.length_set];exact h.1,?_⟩
 rcases h.2 with ⟨h0,_⟩ | ⟨g',cap,cur,h0,hb,hg,h3,h4,h5,h6⟩
 ·cases h0
 ·cases h0
  have hgl:g < w.heap.size:=(Array.getElem?_eq_some_iff.1 hg).1
  have hl:i < n * s:=by rw [← h.1];exact hi
  have hn3:n * s≤c * s:=Nat.mul_le_mul_right _ h3
  refine .inr ⟨g,c,cur.setIfInBounds i u,rfl,hb,?_,h3,h4,by rw [Array.size_setIfInBounds];exact h5,?_⟩
  ·simp [World.setCell,Array.getElem?_modify,hg]
  ·rw [Array.toList_setIfInBounds,List.take_set,h6]
theorem cellsA_set (acc:List AL) (q:AL) (v:Int):(cellsA (acc ++ [q])).set (acc.length * 3 + 2) (.int .i64 v)=cellsA (acc ++ [(q.1,q.2.1,v)]):=by
 rw [cellsA_snoc,cellsA_snoc,List.set_append_right _ _ (by rw [cellsA_len];omega),cellsA_len,show acc.length * 3 + 2 - acc.length * 3=2 by omega]
 rfl
theorem seqO {s t:ByteArray}:(s.toList == t.toList)=decide (s=t):=by
 rw [Bool.eq_iff_iff]
 simp only [beq_iff_eq,decide_eq_true_eq]
 constructor
 ·intro e
  rw [Lib.toList_data,Lib.toList_data] at e
  exact ByteArray.ext (Array.ext' e)
 ·intro e;rw [e]
theorem list_last {α:Type} (l:List α):l=[] ∨ ∃ l' a,l=l' ++ [a]:=by
 rcases List.eq_nil_or_concat l with h | ⟨a,b,h⟩
 ·exact .inl h
 ·exact .inr ⟨a,b,by simpa using h⟩
end Go.Proofs.YtfflmmbhpchloaaGreatDoor
end
