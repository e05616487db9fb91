/- Each theorem here says its own conditions. -/
import Derived.Test.YtfflmmbhpchloaaGreatDoorGTpwc19
import Derived.DeepKeys4
import Derived.StillTailTactics
import Derived.Test.YtfflmmbhpchloaaGreatDoorGTpwc13
set_option maxRecDepth 100000
set_option maxHeartbeats 16000000
section
open Go.RowKit
namespace Go.Proofs.YtfflmmbhpchloaaGreatDoor.V
theorem vlaidOut:laidOutB Tryz.prog=true:=by kernel_rfl
theorem vkeyed:Go.Maps.Keyed Tryz.prog 36 :=
 Go.Maps.Keyed.of_law (deep_law_laid vlaidOut (m:=2) (by omega) (of_decide_eq_true (by kernel_rfl)) (by kernel_rfl) (by rw [Tryz.underlying36]))
def V8.wf (a:V8):Prop:=∀ k,k < 8→(Lit.int .i64 (a.at_ k)).wf=true
def vlit (a:V8):Lit:=.string (keyBytes [.int .i64 a.x0,.int .i64 a.x1,.int .i64 a.x2,.int .i64 a.x3,.int .i64 a.x4,.int .i64 a.x5,.int .i64 a.x6,.int .i64 a.x7])
theorem vlits (a:V8) (h:a.wf):Tryz.prog.keyLits (Tryz.prog.types.size + 1) 36 a.v.cells.toList=some [.int .i64 a.x0,.int .i64 a.x1,.int .i64 a.x2,.int .i64 a.x3,.int .i64 a.x4,.int .i64 a.x5,.int .i64 a.x6,.int .i64 a.x7]:=by
 have hs:∃ m,Tryz.prog.types.size=m + 1:=⟨Tryz.prog.types.size - 1,by kernel_rfl⟩
 obtain ⟨m,hm⟩:=hs
 have c1:Tryz.prog.cellsOf 36=8:=by kernel_rfl
 have c2:Tryz.prog.cellsOf 3=1:=by kernel_rfl
 have w0:=h 0 (by decide);have w1:=h 1 (by decide);have w2:=h 2 (by decide);have w3:=h 3 (by decide)
 have w4:=h 4 (by decide);have w5:=h 5 (by decide);have w6:=h 6 (by decide);have w7:=h 7 (by decide)
 simp only [V8.at_,V8.l,List.getD_cons_zero,List.getD_cons_succ] at w0 w1 w2 w3 w4 w5 w6 w7
 rw [hm]
 simp [Program.keyLits,Value.cells,Tryz.underlying36,Tryz.underlying3,c1,c2,show List.range 8=[0,1,2,3,4,5,6,7] from rfl,w0,w1,w2,w3,w4,w5,w6,w7]
theorem vkeyOf (a:V8) (h:a.wf):keyOf Tryz.prog 36 a.v=some (vlit a):=by
 have hf:(V8.v a).formed Tryz.prog 36=true:=by
  have c1:Tryz.prog.cellsOf 36=8:=by kernel_rfl
  simp [Value.formed,Tryz.underlying36,c1]
 have hk:Tryz.prog.keyType 36=true:=by kernel_rfl
 unfold keyOf
 rw [Tryz.underlying36]
 simp only [hk,hf,Bool.and_self,if_true]
 rw [vlits a h]
 rfl
theorem vlit_inj {a b:V8} (ha:a.wf) (hb:b.wf) (h:vlit a=vlit b):a=b:=by
 have h1:=vkeyed.inj (vkeyOf a ha) (h ▸ vkeyOf b hb)
 refine V8.ext_l ?_
 injection h1 with h1
 injection h1 with h1
 simp at h1
 simp [V8.l,h1]
theorem visKey (a:V8) (h:a.wf):WideAt.IsKeyLit (vlit a):=vkeyed.key (vkeyOf a h)
theorem vzero (w:World):(zeroValue 3).run Tryz.prog w = .ok (.int .i64 0) w:=by kernel_rfl
def MapIs (w:World) (b:Nat) (vs:List V8):Prop:=∃ D:DataW Unit,w.ownsMap Tryz.prog 36 (plainElem Tryz.prog 3) b vs.length D∧Maps.IsMap D ∧
 ∀ a:V8,a.wf→(Maps.has D (vlit a)=decide (a ∈ vs)) ∧ ∀ i:Nat,vs[i]? = some a→D.atKey (vlit a) (.lit (.int .i64 0)) = .lit (.int .i64 (i:Int))
theorem mapIs_new (w:World):MapIs (w.alloc (.map #[] 0)) w.heap.size [] :=
 ⟨.map [],World.ownsMap_made _ _ _ _,Maps.isMap_empty,fun a _=>⟨rfl,fun i hi=>by simp at hi⟩⟩
theorem MapIs.look {w:World} {b:Nat} {vs:List V8} {a:V8} (h:MapIs w b vs) (ha:a.wf) :
 ∃ c:Int,(∀ n,(Instr.lookup 138 (.map (some b)) a.v true).run Tryz.prog (w.drewN n) = .ok (.tuple #[.int .i64 c,.bool (decide (a ∈ vs))]) (w.drewN n)) ∧ ∀ i:Nat,vs[i]? = some a→c=i:=by
 obtain ⟨D,h1,_,h3⟩:=h
 obtain ⟨hh,hi⟩:=h3 a ha
 obtain ⟨c,_,hc,_⟩:=h1.lookup_int vkeyed Tryz.underlying138 Tryz.underlying3 (vzero _) (vkeyOf a ha)
 refine ⟨c,fun n=>?_,fun i h5=>?_⟩
 ·have hd:(w.drewN n).ownsMap Tryz.prog 36 (plainElem Tryz.prog 3) b vs.length D:=h1
  obtain ⟨v,ps,hrun,hv⟩:=hd.look_ok vkeyed Tryz.underlying138 (vzero _) (plainElem_int Tryz.underlying3 (by decide)) (vkeyOf a ha)
  rw [hc] at hv
  obtain ⟨c',rfl,hc',_⟩:=plainElem_int_inv Tryz.underlying3 hv
  simp only [Prod.mk.injEq,DataW.lit.injEq,Lit.int.injEq,true_and] at hc'
  rw [hrun,hh,hc'.1]
 ·rw [hi i h5] at hc
  simp at hc
  exact hc.symm
theorem MapIs.put {w:World} {b:Nat} {vs:List V8} {a:V8} (h:MapIs w b vs) (ha:a.wf) (hn:a ∉ vs) (hl:vs.length≤1000000) :
 ∃ w',(Instr.mapUpdate 138 (.map (some b)) a.v (.int .i64 (vs.length:Int))).run Tryz.prog w = .ok () w'∧MapIs w' b (vs ++ [a])∧w.grownBy w' (some b):=by
 obtain ⟨D,h1,h2,h3⟩:=h
 obtain ⟨w',hr,ho,hg⟩:=h1.update vkeyed Tryz.underlying138 (by unfold maxLen;omega) (vkeyOf a ha) (plainElem_int Tryz.underlying3 (a:=(vs.length:Int)) (WalkArith.wf_i64 (by omega)))
 refine ⟨w',hr,⟨_,by simpa using ho,h2.put _ _,fun c hc=>?_⟩,hg⟩
 by_cases e:c=a
 ·subst e
  refine ⟨by rw [Maps.has_put_same h2 (visKey c hc)];simp,fun i hi=>?_⟩
  rw [Maps.atKey_put_same h2 (visKey c hc)]
  have hi2:i=vs.length:=by
   rcases Nat.lt_trichotomy i vs.length with h5 | h5 | h5
   ·rw [List.getElem?_append_left h5] at hi
    exact absurd (List.mem_of_getElem? hi) hn
   ·exact h5
   ·rw [List.getElem?_eq_none (by simp;omega)] at hi;cases hi
  rw [hi2]
 ·have hne:vlit c ≠ vlit a:=fun h5=>e (vlit_inj hc ha h5)
  refine ⟨by rw [Maps.has_put_other hne,(h3 c hc).1];simp [e],fun i hi=>?_⟩
  rw [Maps.atKey_put_other hne]
  refine (h3 c hc).2 i ?_
  rcases Nat.lt_or_ge i vs.length with h5 | h5
  ·rwa [List.getElem?_append_left h5] at hi
  ·rw [List.getElem?_append_right h5] at hi
   cases hk:i - vs.length with
   | zero=>rw [hk] at hi;simp at hi;exact absurd hi.symm e
   | succ k=>rw [hk] at hi;simp at hi
theorem MapIs.keep {w w':World} {b:Nat} {vs:List V8} (h:MapIs w b vs) (hb:w'.heap[b]? = w.heap[b]?):MapIs w' b vs:=by
 obtain ⟨D,⟨es,clock,h1,F,hs,hD⟩,h2,h3⟩:=h
 exact ⟨D,⟨es,clock,hb.trans h1,F,hs,hD⟩,h2,h3⟩
theorem MapIs.lt {w:World} {b:Nat} {vs:List V8} (h:MapIs w b vs):b < w.heap.size:=by
 obtain ⟨D,h1,_⟩:=h;exact h1.lt
structure Nms (base:Nat) (W:World) (p b:Nat) (A:Option Addr) (cp n:Nat) (vs:List V8) (xs:List ByteArray):Prop where
 blk:W.heap[p]? = some (.cells #[.slice A n cp,.map (some b)] 140 (0,0))
 hp:base≤p
 hb:base≤b
 own:W.ownsRow base 9 1 (.slice A n cp) n (xs.map Value.string)
 map:MapIs W b vs
 len:vs.length=n
 nil:n=0→A=none∧cp=0
structure KeepT (base:Nat) (W W':World):Prop where
 bel:Below base W W'
 oth:∀ (g:Nat) (cs:Array Value) (t:TypeId) (fr:Nat × Nat),W.heap[g]? = some (.cells cs t fr)→t ≠ 9→t ≠ 140→W'.heap[g]? = some (.cells cs t fr)
section
variable {base p b cp n:Nat} {A:Option Addr} {vs:List V8} {xs:List ByteArray} {W W':World}
theorem Nms.lt (h:Nms base W p b A cp n vs xs):p < W.heap.size:=(Array.getElem?_eq_some_iff.1 h.blk).1
theorem Nms.up (h:Nms base W p b A cp n vs xs) (hb:Hid (Below W.heap.size W W')):Nms base W' p b A cp n vs xs :=
 ⟨(hb.out.block p h.lt).trans h.blk,h.hp,h.hb,vown_up h.own hb,h.map.keep (hb.out.block b h.map.lt),h.len,h.nil⟩
theorem Nms.al (h:Nms base W p b A cp n vs xs) (o:Obj):Nms base (W.alloc o) p b A cp n vs xs:=h.up ((Below.refl _ _).alloc (Nat.le_refl _) o)
theorem Nms.c0 (h:Nms base W p b A cp n vs xs):W.cell? ⟨p,0,none⟩=some (.slice A n cp):=by simp [World.cell?,h.blk]
theorem Nms.c1 (h:Nms base W p b A cp n vs xs):W.cell? ⟨p,1,none⟩=some (.map (some b)):=by simp [World.cell?,h.blk]
end
theorem MapIs.not_cells {w:World} {b:Nat} {vs:List V8} (h:MapIs w b vs) {cs:Array Value} {t:TypeId} {fr:Nat × Nat} (hc:w.heap[b]? = some (.cells cs t fr)):False:=by
 obtain ⟨D,⟨es,clock,h1,_⟩,_⟩:=h
 rw [h1] at hc
 cases hc
theorem own_ne_cells {w:World} {base q:Nat} {e t:TypeId} {size:Nat} {v:Value} {n:Nat} {xs:List Value} {cs:Array Value} {fr:Nat × Nat} (h:w.ownsRow base e size v n xs) (hq:w.heap[q]? = some (.cells cs t fr)) (ht:t ≠ e):v.ownBlock ≠ some q:=by
 rcases h.2 with ⟨h1,_⟩ | ⟨g,cap,cur,h1,_,h2,_⟩
 ·rw [h1];intro e;cases e
 ·intro e
  rw [h1] at e
  injection e with e
  rw [← show g=q from e,h2] at hq
  injection hq with hq
  injection hq with _ h4
  exact ht h4.symm
theorem heap_lt (w:World) (o:Obj):w.heap.size < (w.alloc o).heap.size:=by simp
theorem newNames_h (w:World):Calls Tryz.prog 84 #[] w fun e w'=>∃ p b,e = .returned (.pointer (some ⟨p,0,none⟩))∧Nms w.heap.size w' p b none 0 0 [] []∧Hid (Below w.heap.size w w'):=by
 have hmm:=@run_makeMap Tryz.prog
 go_enter Tryz.func84,Tryz.ntmps84
 go_wp2
 go_ret
 refine ⟨w.heap.size + 1,w.heap.size,rfl,⟨?_,by omega,Nat.le_refl _,World.ownsRow_nil _ _ _ _,?_,rfl,fun _=>⟨rfl,rfl⟩⟩,((Below.refl _ _).alloc (Nat.le_refl _) _).alloc (by simp) _⟩
 ·have h:=heap_alloc_new (w.alloc (.map #[] 0)) (.cells #[.slice none 0 0,.map (some w.heap.size)] 140)
  simpa using h
 ·exact (mapIs_new w).keep (Below.heap_alloc _ _ _ (by simp))
theorem put_taken {base p b cp n:Nat} {A:Option Addr} {vs:List V8} {xs:List ByteArray} {W:World} {a:V8} {s:ByteArray} (h:Nms base W p b A cp n vs xs) (ha:a.wf) (hm:a ∈ vs) :
 Calls Tryz.prog 121 #[.pointer (some ⟨p,0,none⟩),a.v,.string s] W (RetV W false):=by
 have hl:=h.lt
 obtain ⟨W1,hW1⟩:∃ X,X=W.alloc (.cells a.c.toArray 36):=⟨_,rfl⟩
 have HA:At W1 W.heap.size a.c:=by rw [hW1];exact at_new0 W a.c _
 have HN:Nms base W1 p b A cp n vs xs:=by rw [hW1];exact h.al _
 have HB:Hid (Below W.heap.size W W1):=by rw [hW1];exact (Below.refl _ _).alloc (Nat.le_refl _) _
 obtain ⟨c,hlook,hc⟩:=HN.map.look ha
 rw [decide_eq_true hm] at hlook
 have n1:=HN.c1
 clear hc ha hm h
 have HW1:=vhide hW1
 clear hW1
 go_enter Tryz.func121,Tryz.ntmps121
 go_wp2
 rw [← HW1.out]
 clear HW1
 obtain ⟨a0,a1,a2,a3,a4,a5,a6,a7⟩:=HA.v8
 go_quiet (fail)
 go_wp2
 go_ret
 exact ⟨rfl,ybelow_drewN HB.out nq⟩
end Go.Proofs.YtfflmmbhpchloaaGreatDoor.V
end
section
open Go.RowKit
namespace Go.Proofs.YtfflmmbhpchloaaGreatDoor
theorem mk_cross {z:Int} {d:Nat} (hd:0 < d):(mkRat z d).num * (d:Int)=z * ((mkRat z d).den:Int):=by
 have h:=(Rat.mkRat_eq_iff (n₁:=(mkRat z d).num) (d₁:=(mkRat z d).den) (n₂:=z) (d₂:=d) (mkRat z d).den_nz (by omega)).1 (Rat.mkRat_self _)
 exact h
theorem sign_mk {z:Int} {d:Nat} (hd:0 < d):(mkRat z d).num.sign=z.sign:=by
 have e:=mk_cross (z:=z) hd
 have h:=congrArg Int.sign e
 rw [Int.sign_mul,Int.sign_mul,Int.sign_eq_one_of_pos (a:=(d:Int)) (by omega),Int.sign_eq_one_of_pos (a:=((mkRat z d).den:Int)) (Int.natCast_pos.2 (mkRat z d).den_pos),Int.mul_one,Int.mul_one] at h
 exact h
theorem low_terms {z:Int} {d g:Nat} (hd:0 < d) (hg:g=Nat.gcd z.natAbs d):0 < g∧(mkRat z d).num.natAbs=z.natAbs / g∧(mkRat z d).den=d / g∧z.natAbs % g=0∧d % g=0∧decide ((mkRat z d).num < 0)=decide (z < 0):=by
 have hg0:0 < g:=by rw [hg];exact Nat.gcd_pos_of_pos_right _ hd
 have h1:g ∣ z.natAbs:=by rw [hg];exact Nat.gcd_dvd_left _ _
 have h2:g ∣ d:=by rw [hg];exact Nat.gcd_dvd_right _ _
 have hc:Nat.gcd d z.natAbs=g:=by rw [hg,Nat.gcd_comm]
 have hz:((g:Nat):Int) ∣ z:=Int.ofNat_dvd_left.2 h1
 refine ⟨hg0,?_,?_,Nat.mod_eq_zero_of_dvd h1,Nat.mod_eq_zero_of_dvd h2,?_⟩
 ·rw [Rat.num_mkRat,if_neg (by omega),hc,Int.natAbs_ediv_of_dvd hz,Int.natAbs_natCast]
 ·rw [Rat.den_mkRat,if_neg (by omega),hc]
 ·have h:=sign_mk (z:=z) hd
  by_cases hn:z < 0
  ·rw [decide_eq_true hn]
   rw [Int.sign_eq_neg_one_of_neg hn] at h
   exact decide_eq_true (Int.sign_eq_neg_one_iff_neg.1 h)
  ·rw [decide_eq_false hn]
   refine decide_eq_false fun h2=>?_
   rw [Int.sign_eq_neg_one_iff_neg.2 h2] at h
   exact hn (Int.sign_eq_neg_one_iff_neg.1 h.symm)
theorem mul_mk {z z':Int} {d d':Nat}:mkRat z d * mkRat z' d'=mkRat (z * z') (d * d'):=Rat.mkRat_mul_mkRat z z' d d'
theorem inv_mk {z:Int} {d:Nat} (hz:z ≠ 0) (hd:0 < d):(mkRat z d)⁻¹=mkRat (if z < 0 then -(d:Int) else (d:Int)) z.natAbs:=by
 rw [← Rat.divInt_ofNat,Rat.inv_divInt]
 by_cases hn:z < 0
 ·rw [if_pos hn,← Rat.divInt_ofNat,← Rat.neg_divInt_neg]
  congr 1;omega
 ·rw [if_neg hn,← Rat.divInt_ofNat]
  congr 1;omega
section
variable {W W':World} {p:Nat} {u v x:Value} {vs:List Value}
def NoW (vs:List Value):Prop:=∀ v ∈ vs,∀ x:Nat,v ≠ U32 x
theorem Nm.put {A:Option Addr} {n c m i:Nat} (h:Nm W A n c m) (hp:At W p vs) (hi:i < vs.length) (hw:NoW vs) (u:Value):Nm (W.setCell ⟨p,i,none⟩ u) A n c m :=
 h.setn (hp.all i _ (List.getElem?_eq_getElem hi)).1 (hw _ (List.getElem_mem hi)) u
end
theorem cmp_u {W:World} {A A':Option Addr} {n n' c c' m m':Nat} (h:Nm W A n c m) (h':Nm W A' n' c' m'):Calls Tryz.prog 65 #[.agg #[.slice A n c],.agg #[.slice A' n' c']] W (IntPost W (cmpI m m')):=cmp_h h h' rfl
section
variable {W:World} {b b':Bool} {A A':Option Addr} {n n' c c' m m':Nat} {z z':Int}
theorem rzero_h (h:Nm W A n c m):Calls Tryz.prog 73 #[.agg #[.slice A n c]] W (RetB W (decide (m=0))):=by
 obtain ⟨u,hu⟩:∃ u,u=cmpI m 0:=⟨_,rfl⟩
 have CC:Hid (∀ o,Calls Tryz.prog 65 #[.agg #[.slice A n c],.agg #[.slice none 0 0]] (W.alloc o) (IntPost (W.alloc o) u)):=fun o=>by rw [hu];exact cmp_u (h.al o) (nm_nil _ none 0)
 have HU:Hid ((u == 0)=decide (m=0)):=by rw [hu];exact cmpI_beq m 0
 clear h hu
 go_enter Tryz.func73,Tryz.ntmps73
 go_wp2_with (go_at_call 65;(with_reducible refine (CC.out _).mono ?_);rintro e w1 ⟨rfl,hbk⟩)
 go_ret
 exact ⟨bool_ret (by first | exact HU.out | (have:=HU.out;simpa using this)),(bx1 hbk).2.2⟩
theorem rone_h (h:Nm W A n c m):Calls Tryz.prog 41 #[.agg #[.slice A n c]] W (RetB W (decide (m=1))):=by
 obtain ⟨u,hu⟩:∃ u,u=cmpI m 1:=⟨_,rfl⟩
 have CO:Hid (∀ W',Calls Tryz.prog 66 #[.int .u64 1] W' (NumR W' 1)):=fun W'=>of_h (v:=1) (by omega)
 have CC:Hid (∀ W' B d,Bel W W'→Nm W' B (dl 1) d 1→Calls Tryz.prog 65 #[.agg #[.slice A n c],.agg #[.slice B (dl 1) d]] W' (IntPost W' u)):=fun W' B d hb h1=>by rw [hu];exact cmp_u (h.up hb) h1
 have HU:Hid ((u == 0)=decide (m=1)):=by rw [hu];exact cmpI_beq m 1
 clear h hu
 go_enter Tryz.func41,Tryz.ntmps41
 go_wp2_with fail
 have HA:=(at_new0 W [.slice A n c] 42).dr
 have HW:=((Bel.refl W).al (.cells #[.slice A n c] 42)).dr
 go_region_held3 (fun w'=>w'.cell? ⟨W.heap.size,0,none⟩=some (.slice A n c)) (first | exact HA.c0)
  (first | (go_at_call 66;(with_reducible refine (CO.out _).mono ?_);rintro e w1 ⟨B,d,rfl,hn,hbk⟩;replace HA:=HA.up hbk;replace HW:=HW.up hbk) | (go_at_call 65;(with_reducible refine (CC.out _ _ _ HW hn).mono ?_);rintro e w2 ⟨rfl,hbk⟩;replace HW:=HW.up hbk;replace HA:=HA.up hbk) | fail)
 go_wp2
 go_ret
 exact ⟨bool_ret (by first | exact HU.out | (have:=HU.out;simpa using this)),HW⟩
theorem now2 {b:Bool} {A:Option Addr} {n c:Nat}:NoW [.bool b,.slice A n c]:=by
 intro u hu x
 simp at hu
 rcases hu with rfl | rfl <;> (intro e;cases e)
theorem now1 {A:Option Addr} {n c:Nat}:NoW [.slice A n c]:=by
 intro u hu x
 simp at hu
 subst hu
 intro e;cases e
theorem now3 {b:Bool} {A A':Option Addr} {n c n' c':Nat}:NoW [.bool b,.slice A n c,.slice A' n' c']:=by
 intro u hu x
 simp at hu
 rcases hu with rfl | rfl | rfl <;> (intro e;cases e)
def QA (W:World) (b:Bool) (A:Option Addr) (n c:Nat) (A':Option Addr) (n' c':Nat) (r:Rat) (K:Nat):Prop :=
 ∃ (z:Int) (d:Nat),ZA W b A n c z∧Nm W A' n' c' d∧Hid (mkRat z d=r∧z.natAbs < W32 ^ K∧d < W32 ^ K)
theorem QA.up {W W':World} {b:Bool} {A A':Option Addr} {n c n' c' K:Nat} {r:Rat} (h:QA W b A n c A' n' c' r K) (hb:Hid (Below W.heap.size W W')):QA W' b A n c A' n' c' r K:=by
 obtain ⟨z,d,h1,h2,h3⟩:=h
 exact ⟨z,d,h1.up hb,h2.up hb,h3⟩
theorem QA.al {W:World} {b:Bool} {A A':Option Addr} {n c n' c' K:Nat} {r:Rat} (h:QA W b A n c A' n' c' r K) (o:Obj):QA (W.alloc o) b A n c A' n' c' r K:=h.up ((Below.refl _ _).alloc (Nat.le_refl _) o)
def TermsR (W:World) (r:Rat) (K:Nat) (e:Ending) (w':World):Prop :=
 ∃ b A n c A' n' c' z d,e = .returned (.tuple #[.agg #[.bool b,.slice A n c],.agg #[.slice A' n' c']])∧ZA w' b A n c z∧Nm w' A' n' c' d∧Hid (0 < d∧mkRat z d=r∧z.natAbs < W32 ^ K∧d < W32 ^ K)∧Hid (Below W.heap.size W w')
theorem dl_one:dl 1=1:=by unfold dl;rw [digs_pos (by decide) (by decide)];rw [show 1 / W32=0 from rfl,digs_zero];rfl
theorem terms_h {r:Rat} {K:Nat} (h:QA W b A n c A' n' c' r K) (hK:0 < K):Calls Tryz.prog 40 #[.agg #[.bool b,.slice A n c,.slice A' n' c']] W (TermsR W r K):=by
 obtain ⟨z,d,hz,hd,hr⟩:=h
 have CZ:Hid (∀ W',Bel W W'→Calls Tryz.prog 73 #[.agg #[.slice A' n' c']] W' (RetB W' (decide (d=0)))):=fun W' hb=>rzero_h (hd.up hb)
 have HB:=Bel.refl W
 by_cases h0:d=0
 ·have HP:Hid (0 < 1∧mkRat 0 1=r∧(0:Int).natAbs < W32 ^ K∧1 < W32 ^ K):=by
   refine ⟨by decide,?_,?_,Nat.one_lt_pow (by omega) (by decide)⟩
   ·rw [← hr.out.1,h0];simp
   ·exact Nat.pow_pos (by decide)
  rw [decide_eq_true h0] at CZ
  have CO:Hid (∀ W',Calls Tryz.prog 66 #[.int .u64 1] W' (NumR W' 1)):=fun W'=>of_h (v:=1) (by omega)
  clear h0 hr hz hd
  go_enter Tryz.func40,Tryz.ntmps40
  go_wp2_with (first | (go_at_call 73;(with_reducible refine (CZ.out _ (((HB.al _).al _).al _)).mono ?_);rintro e w1 ⟨rfl,hbk⟩;have HQ:=At.up (((at_new0 _ _ _).al _).al _) hbk;have HP0:=At.up ((at_new1 _ _ _ _).al _) hbk;have HP1:=At.up (at_new2 _ _ _ _ _) hbk;replace HB:=(((HB.al _).al _).al _).up hbk) | (go_at_call 66;(with_reducible refine (CO.out _).mono ?_);rintro e w2 ⟨B,e2,rfl,hn,hbk⟩;replace HB:=HB.up hbk;replace HQ:=HQ.up hbk;replace HP0:=HP0.up hbk;replace HP1:=HP1.up hbk;have r0:=HP0.c0;have r1:=HP0.c1;have f0:=HP0.f0;have f1:=HP0.f1;have r2:=HP1.c0;have f2:=HP1.f0) | fail)
  refine bodyPost_ret (v:=.tuple #[.agg #[.bool false,.slice none 0 0],.agg #[.slice B (dl 1) e2]]) (by simp [results,Tryz.results40,go_sem,r0,r1,r2]) rfl ?_
  have P0:=HP0.put (i:=0) (by simp) (.bool false)
  have P1:=P0.put (i:=1) (by simp) (.slice none 0 0)
  have Q1:=(HP1.far (i:=0) (show W.heap.size + 1 ≠ W.heap.size + 1 + 1 by omega) (.bool false)).far (i:=1) (show W.heap.size + 1 ≠ W.heap.size + 1 + 1 by omega) (.slice none 0 0)
  refine ⟨false,none,0,0,B,dl 1,e2,0,1,rfl,⟨nm_nil _ _ _,rfl⟩,?_,HP,?_⟩
  ·exact ((hn.put HP0 (by simp) now2 _).put P0 (by simp) now2 _).put Q1 (by simp) now1 _
  ·exact (((Below.setCell HB (by simp) _).setCell (by simp) _).setCell (by simp;omega) _)
 ·have HP:Hid (0 < d∧mkRat z d=r∧z.natAbs < W32 ^ K∧d < W32 ^ K):=⟨by omega,hr.out⟩
  rw [decide_eq_false h0] at CZ
  clear h0 hr
  go_enter Tryz.func40,Tryz.ntmps40
  go_wp2_with (first | (go_at_call 73;(with_reducible refine (CZ.out _ (((HB.al _).al _).al _)).mono ?_);rintro e w1 ⟨rfl,hbk⟩;have HQ:=At.up (((at_new0 _ _ _).al _).al _) hbk;have HP0:=At.up ((at_new1 _ _ _ _).al _) hbk;have HP1:=At.up (at_new2 _ _ _ _ _) hbk;replace HB:=(((HB.al _).al _).al _).up hbk;replace hz:=(((hz.al _).al _).al _).up hbk;replace hd:=(((hd.al _).al _).al _).up hbk;have r0:=HP0.c0;have r1:=HP0.c1;have f0:=HP0.f0;have f1:=HP0.f1;have r2:=HP1.c0;have f2:=HP1.f0;have q0:=HQ.c0;have q1:=HQ.c1;have q2:=HQ.c2) | fail)
  go_region_with (fail)
  all_goals
   go_wp2_with fail
   refine bodyPost_ret (v:=.tuple #[.agg #[.bool b,.slice A n c],.agg #[.slice A' n' c']]) (by simp [results,Tryz.results40,go_sem,r0,r1,r2]) rfl ?_
   have P0:=HP0.put (i:=0) (by simp) (.bool b)
   have P1:=P0.put (i:=1) (by simp) (.slice A n c)
   have Q1:=(HP1.far (i:=0) (show W.heap.size + 1 ≠ W.heap.size + 1 + 1 by omega) (.bool b)).far (i:=1) (show W.heap.size + 1 ≠ W.heap.size + 1 + 1 by omega) (.slice A n c)
   refine ⟨b,A,n,c,A',n',c',z,d,rfl,⟨?_,hz.2⟩,?_,HP,?_⟩
   ·exact ((hz.1.put HP0 (by simp) now2 _).put P0 (by simp) now2 _).put Q1 (by simp) now1 _
   ·exact ((hd.put HP0 (by simp) now2 _).put P0 (by simp) now2 _).put Q1 (by simp) now1 _
   ·exact (((Below.setCell HB (by simp) _).setCell (by simp) _).setCell (by simp;omega) _).drew
end
def DivV (W:World) (q r:Nat) (e:Ending) (w':World):Prop :=
 ∃ A c A' c',e = .returned (.tuple #[.agg #[.slice A (dl q) c],.agg #[.slice A' (dl r) c'],.bool true])∧Nm w' A (dl q) c q∧Nm w' A' (dl r) c' r∧Hid (Below W.heap.size W w')
def QR (W:World) (r:Rat) (e:Ending) (w':World):Prop :=
 ∃ A c A' c',e = .returned (.agg #[.bool (decide (r.num < 0)),.slice A (dl r.num.natAbs) c,.slice A' (dl r.den) c'])∧ZA w' (decide (r.num < 0)) A (dl r.num.natAbs) c r.num∧Nm w' A' (dl r.den) c' r.den∧Hid (Below W.heap.size W w')
theorem below3 {W w2:World} {p:Nat} (h:Bel W w2) (hp:W.heap.size≤p) (x y z:Value):Bel W (((w2.setCell ⟨p,0,none⟩ x).setCell ⟨p,1,none⟩ y).setCell ⟨p,2,none⟩ z) :=
 ((Below.setCell h hp _).setCell hp _).setCell hp _
theorem Nm.put3 {W:World} {p:Nat} {v0 v1 v2:Value} {A:Option Addr} {n c m:Nat} (h:Nm W A n c m) (hp:At W p [v0,v1,v2]) (hw:NoW [v0,v1,v2]) {b:Bool} {B B':Option Addr} {k d k' d':Nat} :
 Nm (((W.setCell ⟨p,0,none⟩ (.bool b)).setCell ⟨p,1,none⟩ (.slice B k d)).setCell ⟨p,2,none⟩ (.slice B' k' d')) A n c m:=by
 have h1:=hp.put (i:=0) (by simp) (.bool b)
 have h2:=h1.put (i:=1) (by simp) (.slice B k d)
 have w1:NoW [.bool b,v1,v2]:=by
  intro u hu x;simp at hu
  rcases hu with rfl | rfl | rfl
  ·intro e;cases e
  ·exact hw _ (by simp) x
  ·exact hw _ (by simp) x
 have w2:NoW [.bool b,.slice B k d,v2]:=by
  intro u hu x;simp at hu
  rcases hu with rfl | rfl | rfl
  ·intro e;cases e
  ·intro e;cases e
  ·exact hw _ (by simp) x
 exact ((h.put hp (by simp) hw _).put h1 (by simp) w1 _).put h2 (by simp) w2 _
section
variable {W:World} {b b':Bool} {A A':Option Addr} {n n' c c' m m':Nat} {z z':Int}
theorem div_v {q r:Nat} (h:Nm W A n c m) (h':Nm W A' n' c' m') (h0:0 < m') (hd:dl m≤99999) (hq:m / m'=q) (hr:m % m'=r):Calls Tryz.prog 71 #[.agg #[.slice A n c],.agg #[.slice A' n' c']] W (DivV W q r):=by
 subst hq;subst hr
 exact div_h h h' h0 hd
theorem lowest_h {r:Rat} {d:Nat} (hz:ZA W b A n c z) (hd:Nm W A' n' c' d) (h0:0 < d) (hr:mkRat z d=r) (bz:dl z.natAbs≤99999) (bd:dl d≤99999) :
 Calls Tryz.prog 39 #[.agg #[.bool b,.slice A n c],.agg #[.slice A' n' c']] W (QR W r):=by
 obtain ⟨g,hg⟩:∃ g,g=Nat.gcd z.natAbs d:=⟨_,rfl⟩
 obtain ⟨hg0,e1,e2,e3,e4,e5⟩:=low_terms (z:=z) h0 hg
 rw [hr] at e1 e2 e5
 obtain ⟨v,hv⟩:∃ v,v=r.num.natAbs:=⟨_,rfl⟩
 obtain ⟨u,hu⟩:∃ u,u=r.den:=⟨_,rfl⟩
 obtain ⟨s,hs⟩:∃ s,s=z.sign:=⟨_,rfl⟩
 have CG:Hid (∀ W',Bel W W'→Calls Tryz.prog 70 #[.agg #[.slice A n c],.agg #[.slice A' n' c']] W' (NumR W' g)):=fun W' hb=>gcd_h (hz.up hb).1 (hd.up hb) hg.symm bz bd
 have CD:Hid (∀ W' B e,Bel W W'→Nm W' B (dl g) e g→Calls Tryz.prog 71 #[.agg #[.slice A n c],.agg #[.slice B (dl g) e]] W' (DivV W' v 0)):=fun W' B e hb hn=>div_v (hz.up hb).1 hn hg0 bz (by rw [hv,e1]) e3
 have CE:Hid (∀ W' B e,Bel W W'→Nm W' B (dl g) e g→Calls Tryz.prog 71 #[.agg #[.slice A' n' c'],.agg #[.slice B (dl g) e]] W' (DivV W' u 0)):=fun W' B e hb hn=>div_v (hd.up hb) hn hg0 bd (by rw [hu,e2]) e4
 have CS:Hid (∀ W',Bel W W'→Calls Tryz.prog 72 #[.agg #[.bool b,.slice A n c]] W' (IntPost W' s)):=fun W' hb=>sign_h (hz.up hb) hs.symm
 have HS:Hid (decide (s < 0)=decide (r.num < 0)):=by
  unfold Hid
  rw [e5,hs]
  by_cases h:z < 0
  ·rw [Int.sign_eq_neg_one_of_neg h,decide_eq_true h];rfl
  ·rw [decide_eq_false h]
   refine decide_eq_false fun h2=>h ?_
   exact Int.sign_neg_iff.1 h2
 have HV:=hide hv
 have HU:=hide hu
 clear hz hd h0 hr bz bd hg hg0 e1 e2 e3 e4 e5 hv hu hs
 have HB:=Bel.refl W
 go_enter Tryz.func39,Tryz.ntmps39
 go_wp2_with (first | (go_at_call 70;(with_reducible refine (CG.out _ (((HB.al _).al _).al _)).mono ?_);rintro e w1 ⟨Ag,cg,rfl,ng,hbk⟩;have HP:=At.up (((at_new0 _ _ _).al _).al _) hbk;have HN:=At.up ((at_new1 _ _ _ _).al _) hbk;have HR:=At.up (at_new2 _ _ _ _ _) hbk;replace HB:=(((HB.al _).al _).al _).up hbk;have hp_0:=HP.c0;have hp_1:=HP.c1;have hp_l:=HP.lt;have hn_0:=HN.c0;have hn_l:=HN.lt) | (go_at_call 71;(with_reducible refine (CD.out _ _ _ (HB.al _) (ng.al _)).mono ?_);rintro e w2 ⟨Ao,co,Ax,cx,rfl,no,nx,hbk⟩;have HG:=At.up (at_new0 _ _ _) hbk;replace HB:=(HB.al _).up hbk;replace HP:=(HP.al _).up hbk;replace HN:=(HN.al _).up hbk;replace HR:=(HR.al _).up hbk;replace ng:=(ng.al _).up hbk;clear hp_0 hp_1 hp_l hn_0 hn_l;have hp_0:=HP.c0;have hp_1:=HP.c1;have hp_l:=HP.lt;have hn_0:=HN.c0;have hn_l:=HN.lt;have hg_0:=HG.c0;have hg_l:=HG.lt;have hL2:=HR.lt) | (go_at_call 71;(with_reducible refine (CE.out _ _ _ ((HB.al _).al _) ((ng.al _).al _)).mono ?_);rintro e w3 ⟨Au,cu,Ay,cy,rfl,nu,ny,hbk⟩;have HO:=At.up ((at_new0 _ _ _).al _) hbk;have HX:=At.up (at_new1 _ _ _ _) hbk;replace HB:=((HB.al _).al _).up hbk;replace HP:=((HP.al _).al _).up hbk;replace HN:=((HN.al _).al _).up hbk;replace HR:=((HR.al _).al _).up hbk;replace no:=((no.al _).al _).up hbk;clear hp_0 hp_1 hp_l hn_0 hn_l hg_0 hg_l;have hL3:=HR.lt) | fail)
 have HQ:=((at_new0 w3 [.slice Au (dl u) cu] 42).al (.cells #[.slice Ay (dl 0) cy] 42)).dr
 replace HB:=((HB.al (.cells #[.slice Au (dl u) cu] 42)).al (.cells #[.slice Ay (dl 0) cy] 42)).dr
 replace HP:=((HP.al (.cells #[.slice Au (dl u) cu] 42)).al (.cells #[.slice Ay (dl 0) cy] 42)).dr
 replace HO:=((HO.al (.cells #[.slice Au (dl u) cu] 42)).al (.cells #[.slice Ay (dl 0) cy] 42)).dr
 replace HR:=((HR.al (.cells #[.slice Au (dl u) cu] 42)).al (.cells #[.slice Ay (dl 0) cy] 42)).dr
 have no2:=((no.al (.cells #[.slice Au (dl u) cu] 42)).al (.cells #[.slice Ay (dl 0) cy] 42)).dr
 have nu2:=((nu.al (.cells #[.slice Au (dl u) cu] 42)).al (.cells #[.slice Ay (dl 0) cy] 42)).dr
 go_region_held3 (fun w'=>w'.cell? ⟨W.heap.size,0,none⟩=some (.bool b)∧w'.cell? ⟨W.heap.size,1,none⟩=some (.slice A n c)∧w'.cell? ⟨w2.heap.size,0,none⟩=some (.slice Ao (dl v) co)∧w'.cell? ⟨w3.heap.size,0,none⟩=some (.slice Au (dl u) cu))
  (first | exact ⟨HP.c0,HP.c1,HO.c0,HQ.c0⟩ | exact ⟨(((HP.far (by omega) _).far (by omega) _).far (by omega) _).c0,(((HP.far (by omega) _).far (by omega) _).far (by omega) _).c1,(((HO.far (by omega) _).far (by omega) _).far (by omega) _).c0,(((HQ.far (by omega) _).far (by omega) _).far (by omega) _).c0⟩)
  (first | (go_at_call 72;(with_reducible refine (CS.out _ HB).mono ?_);rintro e w4 ⟨rfl,hbk⟩;replace HB:=HB.up hbk;replace HP:=HP.up hbk;replace HO:=HO.up hbk;replace HQ:=HQ.up hbk;replace HR:=HR.up hbk;replace no2:=no2.up hbk;replace nu2:=nu2.up hbk;have hr_0:=HR.c0;have hr_1:=HR.c1;have hr_2:=HR.c2;have hr_l:=HR.lt;have hr_f0:=HR.f0;have hr_f1:=HR.f1;have hr_f2:=HR.f2) | fail)
 go_wp2_with fail
 refine bodyPost_ret (v:=.agg #[.bool (decide (s < 0)),.slice Ao (dl v) co,.slice Au (dl u) cu]) (by simp [results,Tryz.results39,go_sem,hr_0,hr_1,hr_2]) rfl ?_
 have hv:=HV.out
 have hu:=HU.out
 subst hv
 subst hu
 rw [HS.out]
 exact ⟨Ao,co,Au,cu,rfl,zr_of (no2.put3 HR now3),nu2.put3 HR now3,below3 HB (by omega) _ _ _⟩
end
def OfYes (W:World) (r:Rat) (e:Ending) (w':World):Prop:=∃ A c A' c',e = .returned (.tuple #[.agg #[.bool (decide (r.num < 0)),.slice A (dl r.num.natAbs) c,.slice A' (dl r.den) c'],.bool true])∧ZA w' (decide (r.num < 0)) A (dl r.num.natAbs) c r.num∧Nm w' A' (dl r.den) c' r.den∧Hid (Below W.heap.size W w')
def OfNo (W:World) (e:Ending) (w':World):Prop:=e = .returned (.tuple #[.agg #[.bool false,.slice none 0 0,.slice none 0 0],.bool false])∧Hid (Below W.heap.size W w')
section
variable {W:World} {b b':Bool} {A A':Option Addr} {n n' c c' m m':Nat} {z z':Int} {r:Rat} {K:Nat}
theorem of_no (hd:Nm W A' n' c' 0):Calls Tryz.prog 211 #[.agg #[.bool b,.slice A n c],.agg #[.slice A' n' c']] W (OfNo W):=by
 have CZ:Hid (∀ W',Bel W W'→Calls Tryz.prog 73 #[.agg #[.slice A' n' c']] W' (RetB W' true)):=fun W' hb=>rzero_h (m:=0) (hd.up hb)
 clear hd
 have HB:=Bel.refl W
 go_enter Tryz.func211,Tryz.ntmps211
 go_wp2_with (first | (go_at_call 73;(with_reducible refine (CZ.out _ (((HB.al _).al _).al _)).mono ?_);rintro e w1 ⟨rfl,hbk⟩;have HP:=At.up (((at_new0 _ _ _).al _).al _) hbk;have HN:=At.up ((at_new1 _ _ _ _).al _) hbk;have HR:=At.up (at_new2 _ _ _ _ _) hbk;replace HB:=(((HB.al _).al _).al _).up hbk;have hr_0:=HR.c0;have hr_1:=HR.c1;have hr_2:=HR.c2;have hr_l:=HR.lt;have hr_f0:=HR.f0;have hr_f1:=HR.f1;have hr_f2:=HR.f2) | fail)
 refine bodyPost_ret (v:=.tuple #[.agg #[.bool false,.slice none 0 0,.slice none 0 0],.bool false]) (by simp [results,Tryz.results211,go_sem,hr_0,hr_1,hr_2]) rfl ?_
 exact ⟨rfl,below3 HB (by omega) _ _ _⟩
theorem of_yes {d:Nat} (hz:ZA W b A n c z) (hd:Nm W A' n' c' d) (h0:0 < d) (hr:mkRat z d=r) (bz:dl z.natAbs≤99999) (bd:dl d≤99999) :
 Calls Tryz.prog 211 #[.agg #[.bool b,.slice A n c],.agg #[.slice A' n' c']] W (OfYes W r):=by
 have CZ:Hid (∀ W',Bel W W'→Calls Tryz.prog 73 #[.agg #[.slice A' n' c']] W' (RetB W' false)):=fun W' hb=>by
  have h1:=rzero_h (hd.up hb)
  rwa [decide_eq_false (by omega)] at h1
 have CL:Hid (∀ W',Bel W W'→Calls Tryz.prog 39 #[.agg #[.bool b,.slice A n c],.agg #[.slice A' n' c']] W' (QR W' r)):=fun W' hb=>lowest_h (hz.up hb) (hd.up hb) h0 hr bz bd
 clear hz hd h0 hr bz bd
 have HB:=Bel.refl W
 go_enter Tryz.func211,Tryz.ntmps211
 go_wp2_with (first | (go_at_call 73;(with_reducible refine (CZ.out _ (((HB.al _).al _).al _)).mono ?_);rintro e w1 ⟨rfl,hbk⟩;have HP:=At.up (((at_new0 _ _ _).al _).al _) hbk;have HN:=At.up ((at_new1 _ _ _ _).al _) hbk;have HR:=At.up (at_new2 _ _ _ _ _) hbk;replace HB:=(((HB.al _).al _).al _).up hbk;have hp_0:=HP.c0;have hp_1:=HP.c1;have hp_l:=HP.lt;have hn_0:=HN.c0;have hn_l:=HN.lt) | (go_at_call 39;(with_reducible refine (CL.out _ HB).mono ?_);rintro e w2 ⟨B,e1,B',e2,rfl,nz,nd,hbk⟩;replace HB:=HB.up hbk;replace HR:=HR.up hbk;clear hp_0 hp_1 hp_l hn_0 hn_l;have hr_0:=HR.c0;have hr_1:=HR.c1;have hr_2:=HR.c2;have hr_l:=HR.lt;have hr_f0:=HR.f0;have hr_f1:=HR.f1;have hr_f2:=HR.f2) | fail)
 refine bodyPost_ret (v:=.tuple #[.agg #[.bool (decide (r.num < 0)),.slice B (dl r.num.natAbs) e1,.slice B' (dl r.den) e2],.bool true]) (by simp [results,Tryz.results211,go_sem,hr_0,hr_1,hr_2]) rfl ?_
 exact ⟨B,e1,B',e2,rfl,zr_of (nz.1.put3 HR now3),nd.put3 HR now3,below3 HB (by first | omega | simp | (simp;omega)) _ _ _⟩
theorem rsign_h {v:Int} (h:QA W b A n c A' n' c' r K) (hK:0 < K) (hv:r.num.sign=v):Calls Tryz.prog 129 #[.agg #[.bool b,.slice A n c,.slice A' n' c']] W (IntPost W v):=by
 have CT:Hid (∀ W',Bel W W'→Calls Tryz.prog 40 #[.agg #[.bool b,.slice A n c,.slice A' n' c']] W' (TermsR W' r K)):=fun W' hb=>terms_h (h.up hb) hK
 have CS:Hid (∀ W' s B k e z d,ZA W' s B k e z→Hid (0 < d∧mkRat z d=r∧z.natAbs < W32 ^ K∧d < W32 ^ K)→Calls Tryz.prog 72 #[.agg #[.bool s,.slice B k e]] W' (IntPost W' v)):=fun W' s B k e z d hz hd=>sign_h hz (by rw [← hv,← hd.out.2.1,sign_mk hd.out.1])
 clear h hv
 have HB:=Bel.refl W
 go_enter Tryz.func129,Tryz.ntmps129
 go_wp2_with (first | (go_at_call 40;(with_reducible refine (CT.out _ (HB.al _)).mono ?_);rintro e w1 ⟨s,B,k,e1,B',k',e2,zv,d,rfl,zp,np,hp,hbk⟩;replace HB:=(HB.al _).up hbk) | (go_at_call 72;(with_reducible refine (CS.out _ _ _ _ _ _ _ ((zp.al _).al _) hp).mono ?_);rintro e w2 ⟨rfl,hbk⟩;replace HB:=((HB.al _).al _).up hbk) | fail)
 go_ret
 exact ⟨rfl,HB⟩
end
theorem bd_mul {x y K L:Nat} (hx:x < W32 ^ K) (hy:y < W32 ^ L):x * y < W32 ^ (K + L):=by
 rw [Nat.pow_add]
 rcases Nat.eq_zero_or_pos y with h | h
 ·subst h;rw [Nat.mul_zero];exact Nat.mul_pos (Nat.pow_pos (by decide)) (Nat.pow_pos (by decide))
 ·exact Nat.lt_of_lt_of_le (Nat.mul_lt_mul_of_pos_right hx h) (Nat.mul_le_mul_left _ (Nat.le_of_lt hy))
theorem dl_bd2 {x K:Nat} (hx:x < W32 ^ K) (hK:K≤99999):dl x≤99999:=Nat.le_trans (dl_le hx) hK
def TT (z:Int) (d:Nat) (r:Rat) (K:Nat):Prop:=0 < d∧mkRat z d=r∧z.natAbs < W32 ^ K∧d < W32 ^ K
section
variable {W:World} {b b' s s':Bool} {A A' B B':Option Addr} {n n' c c' m m' k k' e e':Nat} {z z':Int} {r r':Rat} {K L d d':Nat}
theorem tt_mul (h:TT z d r K) (h':TT z' d' r' K):0 < d * d'∧mkRat (z * z') (d * d')=r * r'∧(z * z').natAbs < W32 ^ (K + K)∧d * d' < W32 ^ (K + K) :=
 ⟨Nat.mul_pos h.1 h'.1,by rw [← h.2.1,← h'.2.1,mul_mk],by rw [Int.natAbs_mul];exact bd_mul h.2.2.1 h'.2.2.1,bd_mul h.2.2.2 h'.2.2.2⟩
theorem lowest_t (hz:ZA W s B k e z) (hd:Nm W B' k' e' d) (h0:0 < d∧mkRat z d=r∧z.natAbs < W32 ^ K∧d < W32 ^ L) (hK:K≤99999) (hL:L≤99999):Calls Tryz.prog 39 #[.agg #[.bool s,.slice B k e],.agg #[.slice B' k' e']] W (QR W r) :=
 lowest_h hz hd h0.1 h0.2.1 (dl_bd2 h0.2.2.1 hK) (dl_bd2 h0.2.2.2 hL)
end
end Go.Proofs.YtfflmmbhpchloaaGreatDoor
end
