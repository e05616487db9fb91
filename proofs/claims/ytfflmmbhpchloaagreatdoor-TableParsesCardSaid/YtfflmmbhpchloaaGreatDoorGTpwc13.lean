/- Each theorem here says its own conditions. -/
import Derived.Test.YtfflmmbhpchloaaGreatDoorGTpwc12
import Derived.WalkSmall
set_option maxRecDepth 100000
set_option maxHeartbeats 16000000
section
open Go.RowKit
namespace Go.Proofs.YtfflmmbhpchloaaGreatDoor
theorem bz1 {a b:World} {v u:Value} {t:TypeId} (hb:Hid (Below (a.alloc (.cells #[v,u] t)).heap.size (a.alloc (.cells #[v,u] t)) b)) :
 b.cell? ⟨a.heap.size,0,none⟩=some v∧b.cell? ⟨a.heap.size,1,none⟩=some u∧Hid (a.heap.size + 1≤b.heap.size)∧Hid (Below a.heap.size a b):=by
 have hs:=hb.out.size
 simp at hs
 have h:(a.alloc (.cells #[v,u] t)).heap[a.heap.size]? = some (.cells #[v,u] t (0,0)):=heap_alloc_new a _
 have hlt:a.heap.size < (a.alloc (.cells #[v,u] t)).heap.size:=by simp
 exact ⟨(hb.out.cell hlt).trans (by rw [cell_of_row _ _ 0 _ t (0,0) h];rfl),(hb.out.cell hlt).trans (by rw [cell_of_row _ _ 1 _ t (0,0) h];rfl),hs,((Below.refl _ _).alloc (Nat.le_refl _) _).trans (hb.out.mono (by simp))⟩
theorem bzf {a b:World} {v u:Value} {t:TypeId} (hb:Hid (Below (a.alloc (.cells #[v,u] t)).heap.size (a.alloc (.cells #[v,u] t)) b)):b.frozen? ⟨a.heap.size,0,none⟩=false∧b.frozen? ⟨a.heap.size,1,none⟩=false:=by
 have h:(a.alloc (.cells #[v,u] t)).heap[a.heap.size]? = some (.cells #[v,u] t (0,0)):=heap_alloc_new a _
 have hlt:a.heap.size < (a.alloc (.cells #[v,u] t)).heap.size:=by simp
 exact ⟨(hb.out.frozen hlt).trans (by unfold World.frozen?;rw [h];simp),(hb.out.frozen hlt).trans (by unfold World.frozen?;rw [h];simp)⟩
theorem Nm.setn {W:World} {A:Option Addr} {n c m:Nat} (h:Nm W A n c m) {p:Addr} {v:Value} (hc:W.cell? p=some v) (hv:∀ x:Nat,v ≠ U32 x) (u:Value):Nm (W.setCell p u) A n c m:=by
 obtain ⟨ws,h1,h2,h3,hr,h4⟩:=h.out
 refine ⟨ws,h1,h2,h3,?_,h4⟩
 have h5:Rd U32 (W.setCell p u) W.heap.size A ws:=fun hn=>by
  obtain ⟨ad,e,hb,hx⟩:=hr hn
  refine ⟨ad,e,hb,fun j x hj=>?_⟩
  have h6:=hx j x hj
  rw [World.cell?_setCell_other W p _ u (by intro e;rw [← e,hc] at h6;injection h6 with h6;exact hv x h6)]
  exact h6
 simpa [World.setCell] using h5
theorem nm_z2 {W:World} {A:Option Addr} {n c m g:Nat} {v0:Bool} {a:Option Addr} {l k:Nat} {x y:Value} (h:Nm W A n c m) (e0:W.cell? ⟨g,0,none⟩=some (.bool v0)) (e1:W.cell? ⟨g,1,none⟩=some (.slice a l k)) :
 Nm ((W.setCell ⟨g,0,none⟩ x).setCell ⟨g,1,none⟩ y) A n c m :=
 (h.setn e0 (by intro x hx;cases hx) x).setn (p:=⟨g,1,none⟩) ((World.cell?_setCell_other _ _ _ _ (by intro e;cases e)).trans e1) (by intro x hx;cases hx) y
section
variable {W:World} {b b':Bool} {A A':Option Addr} {n n' c c':Nat} {z z':Int}
theorem za_zero (h:ZA W b A n c z) (h0:z=0):Calls Tryz.prog 104 #[.agg #[.slice A n c]] W (BoolR W true):=isZero_yes h.1 (by omega)
theorem za_some (h:ZA W b A n c z) (h0:z ≠ 0):Calls Tryz.prog 104 #[.agg #[.slice A n c]] W (BoolR W false):=isZero_no h.1 (by omega)
theorem za_sign (h:ZA W b A n c z) (h0:z ≠ 0):b=decide (z < 0):=by
 have h1:=h.2.out
 cases b
 ·rw [zi_false] at h1;exact (decide_eq_false (by omega)).symm
 ·rw [zi_true] at h1;exact (decide_eq_true (by omega)).symm
theorem sign_h {v:Int} (h:ZA W b A n c z) (hv:z.sign=v):Calls Tryz.prog 72 #[.agg #[.bool b,.slice A n c]] W (IntPost W v):=by
 subst hv
 by_cases h0:z=0
 ·have CZ:Hid (∀ o,Calls Tryz.prog 104 #[.agg #[.slice A n c]] (W.alloc o) (BoolR (W.alloc o) true)):=fun o=>za_zero (h.al o) h0
  subst h0
  clear h
  go_enter Tryz.func72,Tryz.ntmps72
  go_wp2_with (go_at_call 104;(with_reducible refine (CZ.out _).mono ?_);rintro e w1 ⟨rfl,hbk⟩;obtain ⟨e0,e1,hsz,hbx⟩:=bz1 hbk)
  go_ret
  exact ⟨rfl,hbx⟩
 ·have CZ:Hid (∀ o,Calls Tryz.prog 104 #[.agg #[.slice A n c]] (W.alloc o) (BoolR (W.alloc o) false)):=fun o=>za_some (h.al o) h0
  have hb:=za_sign h h0
  by_cases hn:z < 0
  ·rw [decide_eq_true hn] at hb
   subst hb
   have HS:Hid (z.sign = -1):=Int.sign_eq_neg_one_of_neg hn
   clear h h0 hn
   go_enter Tryz.func72,Tryz.ntmps72
   go_wp2_with (go_at_call 104;(with_reducible refine (CZ.out _).mono ?_);rintro e w1 ⟨rfl,hbk⟩;obtain ⟨e0,e1,hsz,hbx⟩:=bz1 hbk)
   go_ret
   exact ⟨by rw [HS.out];rfl,hbx⟩
  ·rw [decide_eq_false hn] at hb
   subst hb
   have HS:Hid (z.sign=1):=Int.sign_eq_one_of_pos (by omega)
   clear h h0 hn
   go_enter Tryz.func72,Tryz.ntmps72
   go_wp2_with (go_at_call 104;(with_reducible refine (CZ.out _).mono ?_);rintro e w1 ⟨rfl,hbk⟩;obtain ⟨e0,e1,hsz,hbx⟩:=bz1 hbk)
   go_ret
   exact ⟨by rw [HS.out];rfl,hbx⟩
theorem zr_of {w':World} {A:Option Addr} {c:Nat} {z:Int} (h:Nm w' A (dl z.natAbs) c z.natAbs):ZA w' (decide (z < 0)) A (dl z.natAbs) c z:=⟨h,zi_dec z⟩
theorem zof_h (h1:-9223372036854775808≤z) (h2:z≤9223372036854775807):Calls Tryz.prog 175 #[.int .i64 z] W (ZR W z):=by
 by_cases hn:z < 0
 ·have e:IntKind.u64.wrap (-IntKind.u64.wrap z)=((z.natAbs:Nat):Int):=by rw [IntKind.wrap_u64,IntKind.wrap_u64];omega
  have CO:Hid (∀ o,Calls Tryz.prog 66 #[.int .u64 (IntKind.u64.wrap (-IntKind.u64.wrap z))] (W.alloc o) (NumR (W.alloc o) z.natAbs)):=fun o=>by rw [e];exact of_h (by omega)
  have HZ:Hid (decide (z < 0)=true):=decide_eq_true hn
  clear e
  go_enter Tryz.func175,Tryz.ntmps175
  go_wp2_with (go_at_call 66;(with_reducible refine (CO.out _).mono ?_);rintro e w1 ⟨B,d,rfl,hn1,hbk⟩;obtain ⟨e0,e1,hsz,hbx⟩:=bz1 hbk;obtain ⟨f0,f1⟩:=bzf hbk)
  refine bodyPost_ret (v:=.agg #[.bool true,.slice B (dl z.natAbs) d]) (by simp [results,Tryz.results175,go_sem,e0,e1]) rfl ?_
  refine ⟨B,d,by rw [HZ.out],zr_of ?_,(hbx.out.setCell (by simp) _).setCell (by simp) _⟩
  exact nm_z2 hn1 e0 e1
 ·have e:IntKind.u64.wrap z=((z.natAbs:Nat):Int):=by rw [IntKind.wrap_u64];omega
  have CO:Hid (∀ o,Calls Tryz.prog 66 #[.int .u64 (IntKind.u64.wrap z)] (W.alloc o) (NumR (W.alloc o) z.natAbs)):=fun o=>by rw [e];exact of_h (by omega)
  have CO2:Hid (∀ o,Calls Tryz.prog 66 #[.int .u64 z] (W.alloc o) (NumR (W.alloc o) z.natAbs)):=fun o=>by rw [show z=((z.natAbs:Nat):Int) by omega];exact of_h (by omega)
  have HZ:Hid (decide (z < 0)=false):=decide_eq_false hn
  clear e
  have hn':0≤z:=by omega
  go_enter Tryz.func175,Tryz.ntmps175
  go_wp2_with (go_at_call 66;first | (with_reducible refine (CO.out _).mono ?_) | (with_reducible refine (CO2.out _).mono ?_);rintro e w1 ⟨B,d,rfl,hn1,hbk⟩;obtain ⟨e0,e1,hsz,hbx⟩:=bz1 hbk;obtain ⟨f0,f1⟩:=bzf hbk)
  refine bodyPost_ret (v:=.agg #[.bool false,.slice B (dl z.natAbs) d]) (by simp [results,Tryz.results175,go_sem,e0,e1]) rfl ?_
  refine ⟨B,d,by rw [HZ.out],zr_of ?_,(hbx.out.setCell (by simp) _).setCell (by simp) _⟩
  exact nm_z2 hn1 e0 e1
end
structure Zcell (W:World) (p:Nat) (b:Bool) (A:Option Addr) (n c:Nat):Prop where
 c0:W.cell? ⟨p,0,none⟩=some (.bool b)
 c1:W.cell? ⟨p,1,none⟩=some (.slice A n c)
 f0:W.frozen? ⟨p,0,none⟩=false
 f1:W.frozen? ⟨p,1,none⟩=false
 lt:p < W.heap.size
theorem Zcell.up {W W':World} {p:Nat} {b:Bool} {A:Option Addr} {n c:Nat} (h:Zcell W p b A n c) (hb:Hid (Below W.heap.size W W')):Zcell W' p b A n c :=
 ⟨(hb.out.cell h.lt).trans h.c0,(hb.out.cell h.lt).trans h.c1,(hb.out.frozen h.lt).trans h.f0,(hb.out.frozen h.lt).trans h.f1,Nat.lt_of_lt_of_le h.lt hb.out.size⟩
theorem Zcell.al {W:World} {p:Nat} {b:Bool} {A:Option Addr} {n c:Nat} (h:Zcell W p b A n c) (o:Obj):Zcell (W.alloc o) p b A n c:=h.up ((Below.refl _ _).alloc (Nat.le_refl _) o)
theorem Zcell.dr {W:World} {p:Nat} {b:Bool} {A:Option Addr} {n c:Nat} (h:Zcell W p b A n c):Zcell W.drew p b A n c:=⟨h.c0,h.c1,h.f0,h.f1,h.lt⟩
theorem zc_new (W:World) (b:Bool) (A:Option Addr) (n c:Nat) (t:TypeId):Zcell (W.alloc (.cells #[.bool b,.slice A n c] t)) W.heap.size b A n c:=by
 have h:(W.alloc (.cells #[.bool b,.slice A n c] t)).heap[W.heap.size]? = some (.cells #[.bool b,.slice A n c] t (0,0)):=heap_alloc_new W _
 exact ⟨by rw [cell_of_row _ _ 0 _ t (0,0) h];rfl,by rw [cell_of_row _ _ 1 _ t (0,0) h];rfl,by unfold World.frozen?;rw [h];simp,by unfold World.frozen?;rw [h];simp,by simp⟩
theorem zc_new1 (W:World) (o:Obj) (b:Bool) (A:Option Addr) (n c:Nat) (t:TypeId):Zcell ((W.alloc o).alloc (.cells #[.bool b,.slice A n c] t)) (W.heap.size + 1) b A n c:=by
 have h:=zc_new (W.alloc o) b A n c t
 rwa [show (W.alloc o).heap.size=W.heap.size + 1 by simp] at h
theorem zc_new2 (W:World) (o o':Obj) (b:Bool) (A:Option Addr) (n c:Nat) (t:TypeId):Zcell (((W.alloc o).alloc o').alloc (.cells #[.bool b,.slice A n c] t)) (W.heap.size + 1 + 1) b A n c:=by
 have h:=zc_new ((W.alloc o).alloc o') b A n c t
 rwa [show ((W.alloc o).alloc o').heap.size=W.heap.size + 1 + 1 by simp] at h
section
variable {W:World} {b b':Bool} {A A':Option Addr} {n n' c c':Nat} {z z':Int}
theorem signed_z {s:Bool} {v:Int} (h:Nm W A n c v.natAbs) (hs:v=zi s v.natAbs):Calls Tryz.prog 132 #[.bool s,.agg #[.slice A n c]] W (SgR W (decide (v < 0)) A n c):=by
 cases s
 ·rw [zi_false] at hs
  rw [decide_eq_false (show ¬ v < 0 by omega)]
  exact signed_plus
 ·rw [zi_true] at hs
  by_cases h0:v=0
  ·rw [decide_eq_false (show ¬ v < 0 by omega)]
   exact signed_call (b:=true) fun W' hb=>isZero_yes (h.up hb) (by omega)
  ·rw [decide_eq_true (show v < 0 by omega)]
   exact signed_call (b:=false) fun W' hb=>isZero_no (h.up hb) (by omega)
theorem zr_end {w2:World} {B:Option Addr} {d p m:Nat} {v:Int} {s0:Bool} {a0:Option Addr} {l0 k0:Nat} (hW:Hid (Below W.heap.size W w2)) (hp:W.heap.size≤p) (hR:Hid (Zcell w2 p s0 a0 l0 k0)) (hn:Nm w2 B (dl m) d m) (hm:m=v.natAbs) :
 ZR W v (.returned (.agg #[.bool (decide (v < 0)),.slice B (dl m) d])) ((w2.setCell ⟨p,0,none⟩ (.bool (decide (v < 0)))).setCell ⟨p,1,none⟩ (.slice B (dl m) d)):=by
 subst hm
 exact ⟨B,d,rfl,zr_of (nm_z2 hn hR.out.c0 hR.out.c1),(hW.out.setCell (by simpa using hp) _).setCell (by simpa using hp) _⟩
theorem far2 {w:World} {p q i:Nat} {v u x:Value} (hq:p ≠ q) (h:w.cell? ⟨q,i,none⟩=some x):((w.setCell ⟨p,0,none⟩ v).setCell ⟨p,1,none⟩ u).cell? ⟨q,i,none⟩=some x :=
 (World.cell?_setCell_far _ _ _ _ hq).trans ((World.cell?_setCell_far _ _ _ _ hq).trans h)
theorem zi_mul (b b':Bool) (m m':Nat):zi b m * zi b' m'=zi (b != b') (m * m'):=by
 cases b <;> cases b' <;> simp [zi,Int.mul_neg,Int.neg_mul]
theorem zmul_h {v:Int} (h:ZA W b A n c z) (h':ZA W b' A' n' c' z') (hv:z * z'=v) (hd:dl v.natAbs≤100000):Calls Tryz.prog 91 #[.agg #[.bool b,.slice A n c],.agg #[.bool b',.slice A' n' c']] W (ZR W v):=by
 have CA:Hid (∀ W',Below W.heap.size W W'→Calls Tryz.prog 133 #[.agg #[.slice A n c],.agg #[.slice A' n' c']] W' (NumR W' v.natAbs)):=fun W' hb=>mul_h (h.up hb).1 (h'.up hb).1 (by rw [← hv,Int.natAbs_mul]) hd
 have CS:Hid (∀ s,(b != b')=s → ∀ W' B n d,Nm W' B n d v.natAbs→Calls Tryz.prog 132 #[.bool s,.agg #[.slice B n d]] W' (SgR W' (decide (v < 0)) B n d)):=fun s hs W' B n d hn=>by
  subst hs
  refine signed_z hn ?_
  rw [← hv,Int.natAbs_mul,← zi_mul,← h.2.out,← h'.2.out]
 clear h h' hv hd
 cases b <;> cases b'
 all_goals
  go_enter Tryz.func91,Tryz.ntmps91
  go_wp2_with fail
 ·obtain ⟨W0,hW0⟩:∃ W0,W0=(((W.alloc (.cells #[.bool false,.slice A n c] 49)).alloc (.cells #[.bool false,.slice A' n' c'] 49)).alloc (.cells #[.bool false,.slice none 0 0] 49)):=⟨_,rfl⟩
  rw [← hW0]
  have HA:Hid (Zcell W0.drew W.heap.size false A n c):=by rw [hW0];exact Zcell.dr (((zc_new _ _ _ _ _ _).al _).al _)
  have HA':Hid (Zcell W0.drew (W.heap.size + 1) false A' n' c'):=by rw [hW0];exact Zcell.dr ((zc_new1 _ _ _ _ _ _ _).al _)
  have HR:Hid (Zcell W0.drew (W.heap.size + 1 + 1) false none 0 0):=by rw [hW0];exact Zcell.dr (zc_new2 _ _ _ _ _ _ _ _)
  have HW:Hid (Below W.heap.size W W0.drew):=by rw [hW0];exact Below.drew ((((Below.refl _ _).alloc (Nat.le_refl _) _).alloc (by simp) _).alloc (by simp;omega) _)
  clear hW0
  go_region_held3 (fun w'=>w'.cell? ⟨W.heap.size,0,none⟩=some (.bool false)∧w'.cell? ⟨W.heap.size,1,none⟩=some (.slice A n c)∧w'.cell? ⟨W.heap.size + 1,0,none⟩=some (.bool false)∧w'.cell? ⟨W.heap.size + 1,1,none⟩=some (.slice A' n' c'))
   (first | exact ⟨HA.out.c0,HA.out.c1,HA'.out.c0,HA'.out.c1⟩ | exact ⟨far2 (by omega) HA.out.c0,far2 (by omega) HA.out.c1,far2 (by omega) HA'.out.c0,far2 (by omega) HA'.out.c1⟩)
   (first | (go_at_call 133;(with_reducible refine (CA.out _ HW.out).mono ?_);rintro e w1 ⟨B,d,rfl,hn,hbk⟩;replace HA:=hide (HA.out.up hbk);replace HA':=hide (HA'.out.up hbk);replace HR:=hide (HR.out.up hbk);replace HW:=chain HW hbk.out) | (go_at_call 132;(with_reducible refine (CS.out _ (by decide) _ _ _ _ hn).mono ?_);rintro e w2 ⟨rfl,hbk⟩;replace HA:=hide (HA.out.up hbk);replace HA':=hide (HA'.out.up hbk);replace HR:=hide (HR.out.up hbk);replace HW:=chain HW hbk.out;have hn:=hn.up hbk;have r0:=HR.out.c0;have r1:=HR.out.c1;have f0:=HR.out.f0;have f1:=HR.out.f1) | fail)
  go_wp2_with fail
  refine bodyPost_ret (v:=.agg #[.bool (decide (v < 0)),.slice B (dl v.natAbs) d]) (by simp [results,Tryz.results91,go_sem,r0,r1]) rfl ?_
  exact zr_end HW (by omega) HR hn rfl
 ·obtain ⟨W0,hW0⟩:∃ W0,W0=(((W.alloc (.cells #[.bool false,.slice A n c] 49)).alloc (.cells #[.bool true,.slice A' n' c'] 49)).alloc (.cells #[.bool false,.slice none 0 0] 49)):=⟨_,rfl⟩
  rw [← hW0]
  have HA:Hid (Zcell W0.drew W.heap.size false A n c):=by rw [hW0];exact Zcell.dr (((zc_new _ _ _ _ _ _).al _).al _)
  have HA':Hid (Zcell W0.drew (W.heap.size + 1) true A' n' c'):=by rw [hW0];exact Zcell.dr ((zc_new1 _ _ _ _ _ _ _).al _)
  have HR:Hid (Zcell W0.drew (W.heap.size + 1 + 1) false none 0 0):=by rw [hW0];exact Zcell.dr (zc_new2 _ _ _ _ _ _ _ _)
  have HW:Hid (Below W.heap.size W W0.drew):=by rw [hW0];exact Below.drew ((((Below.refl _ _).alloc (Nat.le_refl _) _).alloc (by simp) _).alloc (by simp;omega) _)
  clear hW0
  go_region_held3 (fun w'=>w'.cell? ⟨W.heap.size,0,none⟩=some (.bool false)∧w'.cell? ⟨W.heap.size,1,none⟩=some (.slice A n c)∧w'.cell? ⟨W.heap.size + 1,0,none⟩=some (.bool true)∧w'.cell? ⟨W.heap.size + 1,1,none⟩=some (.slice A' n' c'))
   (first | exact ⟨HA.out.c0,HA.out.c1,HA'.out.c0,HA'.out.c1⟩ | exact ⟨far2 (by omega) HA.out.c0,far2 (by omega) HA.out.c1,far2 (by omega) HA'.out.c0,far2 (by omega) HA'.out.c1⟩)
   (first | (go_at_call 133;(with_reducible refine (CA.out _ HW.out).mono ?_);rintro e w1 ⟨B,d,rfl,hn,hbk⟩;replace HA:=hide (HA.out.up hbk);replace HA':=hide (HA'.out.up hbk);replace HR:=hide (HR.out.up hbk);replace HW:=chain HW hbk.out) | (go_at_call 132;(with_reducible refine (CS.out _ (by decide) _ _ _ _ hn).mono ?_);rintro e w2 ⟨rfl,hbk⟩;replace HA:=hide (HA.out.up hbk);replace HA':=hide (HA'.out.up hbk);replace HR:=hide (HR.out.up hbk);replace HW:=chain HW hbk.out;have hn:=hn.up hbk;have r0:=HR.out.c0;have r1:=HR.out.c1;have f0:=HR.out.f0;have f1:=HR.out.f1) | fail)
  go_wp2_with fail
  refine bodyPost_ret (v:=.agg #[.bool (decide (v < 0)),.slice B (dl v.natAbs) d]) (by simp [results,Tryz.results91,go_sem,r0,r1]) rfl ?_
  exact zr_end HW (by omega) HR hn rfl
 ·obtain ⟨W0,hW0⟩:∃ W0,W0=(((W.alloc (.cells #[.bool true,.slice A n c] 49)).alloc (.cells #[.bool false,.slice A' n' c'] 49)).alloc (.cells #[.bool false,.slice none 0 0] 49)):=⟨_,rfl⟩
  rw [← hW0]
  have HA:Hid (Zcell W0.drew W.heap.size true A n c):=by rw [hW0];exact Zcell.dr (((zc_new _ _ _ _ _ _).al _).al _)
  have HA':Hid (Zcell W0.drew (W.heap.size + 1) false A' n' c'):=by rw [hW0];exact Zcell.dr ((zc_new1 _ _ _ _ _ _ _).al _)
  have HR:Hid (Zcell W0.drew (W.heap.size + 1 + 1) false none 0 0):=by rw [hW0];exact Zcell.dr (zc_new2 _ _ _ _ _ _ _ _)
  have HW:Hid (Below W.heap.size W W0.drew):=by rw [hW0];exact Below.drew ((((Below.refl _ _).alloc (Nat.le_refl _) _).alloc (by simp) _).alloc (by simp;omega) _)
  clear hW0
  go_region_held3 (fun w'=>w'.cell? ⟨W.heap.size,0,none⟩=some (.bool true)∧w'.cell? ⟨W.heap.size,1,none⟩=some (.slice A n c)∧w'.cell? ⟨W.heap.size + 1,0,none⟩=some (.bool false)∧w'.cell? ⟨W.heap.size + 1,1,none⟩=some (.slice A' n' c'))
   (first | exact ⟨HA.out.c0,HA.out.c1,HA'.out.c0,HA'.out.c1⟩ | exact ⟨far2 (by omega) HA.out.c0,far2 (by omega) HA.out.c1,far2 (by omega) HA'.out.c0,far2 (by omega) HA'.out.c1⟩)
   (first | (go_at_call 133;(with_reducible refine (CA.out _ HW.out).mono ?_);rintro e w1 ⟨B,d,rfl,hn,hbk⟩;replace HA:=hide (HA.out.up hbk);replace HA':=hide (HA'.out.up hbk);replace HR:=hide (HR.out.up hbk);replace HW:=chain HW hbk.out) | (go_at_call 132;(with_reducible refine (CS.out _ (by decide) _ _ _ _ hn).mono ?_);rintro e w2 ⟨rfl,hbk⟩;replace HA:=hide (HA.out.up hbk);replace HA':=hide (HA'.out.up hbk);replace HR:=hide (HR.out.up hbk);replace HW:=chain HW hbk.out;have hn:=hn.up hbk;have r0:=HR.out.c0;have r1:=HR.out.c1;have f0:=HR.out.f0;have f1:=HR.out.f1) | fail)
  go_wp2_with fail
  refine bodyPost_ret (v:=.agg #[.bool (decide (v < 0)),.slice B (dl v.natAbs) d]) (by simp [results,Tryz.results91,go_sem,r0,r1]) rfl ?_
  exact zr_end HW (by omega) HR hn rfl
 ·obtain ⟨W0,hW0⟩:∃ W0,W0=(((W.alloc (.cells #[.bool true,.slice A n c] 49)).alloc (.cells #[.bool true,.slice A' n' c'] 49)).alloc (.cells #[.bool false,.slice none 0 0] 49)):=⟨_,rfl⟩
  rw [← hW0]
  have HA:Hid (Zcell W0.drew W.heap.size true A n c):=by rw [hW0];exact Zcell.dr (((zc_new _ _ _ _ _ _).al _).al _)
  have HA':Hid (Zcell W0.drew (W.heap.size + 1) true A' n' c'):=by rw [hW0];exact Zcell.dr ((zc_new1 _ _ _ _ _ _ _).al _)
  have HR:Hid (Zcell W0.drew (W.heap.size + 1 + 1) false none 0 0):=by rw [hW0];exact Zcell.dr (zc_new2 _ _ _ _ _ _ _ _)
  have HW:Hid (Below W.heap.size W W0.drew):=by rw [hW0];exact Below.drew ((((Below.refl _ _).alloc (Nat.le_refl _) _).alloc (by simp) _).alloc (by simp;omega) _)
  clear hW0
  go_region_held3 (fun w'=>w'.cell? ⟨W.heap.size,0,none⟩=some (.bool true)∧w'.cell? ⟨W.heap.size,1,none⟩=some (.slice A n c)∧w'.cell? ⟨W.heap.size + 1,0,none⟩=some (.bool true)∧w'.cell? ⟨W.heap.size + 1,1,none⟩=some (.slice A' n' c'))
   (first | exact ⟨HA.out.c0,HA.out.c1,HA'.out.c0,HA'.out.c1⟩ | exact ⟨far2 (by omega) HA.out.c0,far2 (by omega) HA.out.c1,far2 (by omega) HA'.out.c0,far2 (by omega) HA'.out.c1⟩)
   (first | (go_at_call 133;(with_reducible refine (CA.out _ HW.out).mono ?_);rintro e w1 ⟨B,d,rfl,hn,hbk⟩;replace HA:=hide (HA.out.up hbk);replace HA':=hide (HA'.out.up hbk);replace HR:=hide (HR.out.up hbk);replace HW:=chain HW hbk.out) | (go_at_call 132;(with_reducible refine (CS.out _ (by decide) _ _ _ _ hn).mono ?_);rintro e w2 ⟨rfl,hbk⟩;replace HA:=hide (HA.out.up hbk);replace HA':=hide (HA'.out.up hbk);replace HR:=hide (HR.out.up hbk);replace HW:=chain HW hbk.out;have hn:=hn.up hbk;have r0:=HR.out.c0;have r1:=HR.out.c1;have f0:=HR.out.f0;have f1:=HR.out.f1) | fail)
  go_wp2_with fail
  refine bodyPost_ret (v:=.agg #[.bool (decide (v < 0)),.slice B (dl v.natAbs) d]) (by simp [results,Tryz.results91,go_sem,r0,r1]) rfl ?_
  exact zr_end HW (by omega) HR hn rfl
end
section
variable {W:World} {b b':Bool} {A A':Option Addr} {n n' c c':Nat} {z z':Int}
theorem bel_al {a b w:World} {v:Value} {t:TypeId} (h:Hid (Below w.heap.size w a)) (hb:Hid (Below (a.alloc (.cells #[v] t)).heap.size (a.alloc (.cells #[v] t)) b)):Hid (Below w.heap.size w b):=chain h (bx1 hb).2.2.out
theorem Zcell.upA {a b:World} {v:Value} {t:TypeId} {p:Nat} {s:Bool} {A:Option Addr} {n c:Nat} (h:Zcell a p s A n c) (hb:Hid (Below (a.alloc (.cells #[v] t)).heap.size (a.alloc (.cells #[v] t)) b)):Zcell b p s A n c:=h.up (bx1 hb).2.2
theorem nm_upA {a b:World} {v:Value} {t:TypeId} {A:Option Addr} {n c m:Nat} (h:Nm a A n c m) (hb:Hid (Below (a.alloc (.cells #[v] t)).heap.size (a.alloc (.cells #[v] t)) b)):Nm b A n c m:=h.up (bx1 hb).2.2
end
section
variable {W:World} {b b':Bool} {A A':Option Addr} {n n' c c':Nat} {z z':Int}
end
theorem dig_letter {d:Nat} (h:d < 10):isDig (letter d)=true:=by unfold isDig;rw [letter_toNat h];simp;omega
theorem dvs_letters (l:List Nat) (h:∀ d ∈ l,d < 10):dvs (l.reverse.map letter)=l:=by
 unfold dvs
 rw [← List.map_reverse,List.reverse_reverse,List.map_map]
 have:∀ m:List Nat,(∀ d ∈ m,d < 10)→m.map ((fun c:UInt8=>c.toNat - 48) ∘ letter)=m:=by
  intro m
  induction m with
  | nil=>intro _;rfl
  | cons d m ih =>
    intro hm
    rw [List.map_cons,ih fun x hx=>hm x (List.mem_cons_of_mem _ hx)]
    have:=letter_toNat (hm d (List.mem_cons_self ..))
    simp only [Function.comp_apply,this]
    congr 1;omega
 exact this l h
theorem numL_decL (m:Nat):numL (decL m)=m∧digB (decL m)=true:=by
 unfold decL
 by_cases h0:m=0
 ·rw [if_pos h0,h0];exact ⟨rfl,by decide⟩
 ·rw [if_neg h0]
  have hlt:=digs_lt (b:=10) (by omega) m
  refine ⟨?_,?_⟩
  ·show numL ((digs 10 m).reverse.map letter)=m
   rw [numL_val,dvs_letters _ hlt,val_digs (by omega)]
  ·unfold digB
   rw [Bool.and_eq_true]
   refine ⟨?_,?_⟩
   ·rw [digs_pos (by omega) (by omega)];simp
   ·rw [List.all_eq_true]
    intro c hc
    obtain ⟨d,hd,rfl⟩:=List.mem_map.1 hc
    exact dig_letter (hlt d (List.mem_reverse.1 hd))
theorem dt_le {m k:Nat} (h:m < 10 ^ k) (hk:1≤k):(decL m).length≤k:=by
 unfold decL
 by_cases h0:m=0
 ·rw [if_pos h0];exact hk
 ·rw [if_neg h0,List.length_map,List.length_reverse]
  have h1:=pow_le_of_digs (b:=10) (n:=m) (by decide) (by omega)
  have h2:10 ^ ((digs 10 m).length - 1) < 10 ^ k:=Nat.lt_of_le_of_lt h1 h
  have h3:=(Nat.pow_lt_pow_iff_right (a:=10) (by decide)).1 h2
  omega
def decZ (z:Int):List UInt8:=if z < 0 then 45 :: decL z.natAbs else decL z.natAbs
def TxR (W:World) (l:List UInt8) (e:Ending) (w':World):Prop:=∃ t:ByteArray,e = .returned (.string t)∧Hid (t.data.toList=l)∧Hid (Below W.heap.size W w')
section
variable {W:World} {b:Bool} {A:Option Addr} {n c:Nat} {z:Int}
theorem text_h {m:Nat} (h:Nm W A n c m):Calls Tryz.prog 43 #[.agg #[.slice A n c]] W (TxR W (decL m)):=(Text_any h.out).mono fun _ _ h=>h
theorem decL_len {W:World} {A:Option Addr} {n c m:Nat} (h:Nm W A n c m):(decL m).length≤1000001:=by
 have h1:m < 10 ^ (10 * dl m + 1):=by
  have h2:m < W32 ^ dl m:=lt_pow_digs (b:=W32) (by decide) m
  have h3:W32 ^ dl m≤(10 ^ 10) ^ dl m:=Nat.pow_le_pow_left (by decide) _
  rw [← Nat.pow_mul] at h3
  exact Nat.lt_of_lt_of_le h2 (Nat.le_trans h3 (Nat.pow_le_pow_right (by decide) (by omega)))
 have:=dt_le h1 (by omega)
 have:=h.dl
 omega
theorem ztext_h (h:ZA W b A n c z):Calls Tryz.prog 42 #[.agg #[.bool b,.slice A n c]] W (TxR W (decZ z)):=by
 have CT:Hid (∀ W',Below W.heap.size W W'→Calls Tryz.prog 43 #[.agg #[.slice A n c]] W' (TxR W' (decL z.natAbs))):=fun W' hb=>text_h (h.up hb).1
 have HLEN:=hide (decL_len h.1)
 by_cases hn:z < 0
 ·have CS:Hid (∀ o,Calls Tryz.prog 72 #[.agg #[.bool b,.slice A n c]] (W.alloc o) (IntPost (W.alloc o) (-1))):=fun o=>sign_h (h.al o) (Int.sign_eq_neg_one_of_neg hn)
  have HZ:Hid (decZ z=45 :: decL z.natAbs):=if_pos hn
  clear h hn
  go_enter Tryz.func42,Tryz.ntmps42
  go_wp2_with (first | (go_at_call 72;(with_reducible refine (CS.out _).mono ?_);rintro e w1 ⟨rfl,hbk⟩;obtain ⟨e0,e1,hsz,hbx⟩:=bz1 hbk) | (go_at_call 43;(with_reducible refine (CT.out _ hbx.out).mono ?_);rintro e w2 ⟨t,rfl,ht,hbk2⟩;have hts:t.size≤1000001:=(by rw [size_list,ht.out];exact HLEN.out)) | fail)
  all_goals first
   | (go_ret
      refine ⟨_,rfl,?_,chain hbx hbk2.out⟩
      unfold Hid
      rw [HZ.out,← ht.out]
      simp)
   | (exfalso;omega)
 ·by_cases h0:z=0
  all_goals
   have CS:Hid (∀ o,∃ s,0≤s∧Calls Tryz.prog 72 #[.agg #[.bool b,.slice A n c]] (W.alloc o) (IntPost (W.alloc o) s)):=fun o=>⟨_,by first | (subst h0;decide) | (rw [Int.sign_eq_one_of_pos (by omega)];decide),sign_h (h.al o) rfl⟩
   have HZ:Hid (decZ z=decL z.natAbs):=if_neg hn
   obtain ⟨s,hs0,hs⟩:=CS.out (.cells #[.bool b,.slice A n c] 49)
   have CS2:=hide hs
   clear h hn h0 CS hs
   go_enter Tryz.func42,Tryz.ntmps42
   go_wp2_with (first | (go_at_call 72;(with_reducible refine CS2.out.mono ?_);rintro e w1 ⟨rfl,hbk⟩;obtain ⟨e0,e1,hsz,hbx⟩:=bz1 hbk) | (go_at_call 43;(with_reducible refine (CT.out _ hbx.out).mono ?_);rintro e w2 ⟨t,rfl,ht,hbk2⟩) | fail)
   go_ret
   exact ⟨t,rfl,by unfold Hid;rw [HZ.out];exact ht.out,chain hbx hbk2.out⟩
end



def BoolQ (W:World) (b:Bool) (e:Ending) (w':World):Prop:=e = .returned (.bool b) ∧ ∃ n,w'=W.drewN n


def RC (w:World) (B:Nat) (A:Option Addr) (cs:List Value):Prop:=0 < cs.length → ∃ ad,A=some ad∧ad.block < B ∧ ∀ j v,cs[j]? = some v→w.cell? (ad.add j)=some v
section
variable {w w':World} {B B':Nat} {A:Option Addr} {cs:List Value}
theorem RC.nil:RC w B A []:=fun h=>absurd h (by simp)
theorem RC.keep (h:RC w B A cs) (hk:∀ p:Addr,p.block < B→w'.cell? p=w.cell? p):RC w' B A cs:=fun hn=>by
 obtain ⟨ad,e,hb,hc⟩:=h hn
 exact ⟨ad,e,hb,fun j u hu=>(hk _ (by rw [yblock_add];exact hb)).trans (hc j u hu)⟩
theorem RC.more (h:RC w B A cs) (hB:B≤B'):RC w B' A cs:=fun hn=>by
 obtain ⟨ad,e,hb,hc⟩:=h hn
 exact ⟨ad,e,by omega,hc⟩
theorem RC.below (h:RC w B A cs) (hb:Below B w w'):RC w' B A cs:=h.keep fun _ hp=>hb.cell hp
theorem RC.of_own {base size:Nat} {e:TypeId} {n c:Nat} (h:w.ownsRow base e size (.slice A n c) n cs):RC w w.heap.size A cs:=fun hn=>by
 rcases h.2 with ⟨h0,h1⟩ | ⟨g,cap,cur,h0,_,hg,_⟩
 ·have:=h.1
  rw [h1] at this
  omega
 ·injection h0 with h0 h1 h2
  subst h0
  refine ⟨_,rfl,(Array.getElem?_eq_some_iff.1 hg).1,fun j x hx=>?_⟩
  exact h.cells (g:=g) rfl j _ hx
end
def Cs (W:World) (A:Option Addr) (cs:List Value):Prop:=Hid (RC W W.heap.size A cs)
section
variable {W W':World} {A:Option Addr} {cs:List Value}
theorem Cs.nil:Cs W A []:=RC.nil
theorem Cs.up (h:Cs W A cs) (hb:Hid (Below W.heap.size W W')):Cs W' A cs:=(h.out.below hb.out).more hb.out.size
theorem Cs.al (h:Cs W A cs) (o:Obj):Cs (W.alloc o) A cs:=h.up ((Below.refl _ _).alloc (Nat.le_refl _) o)
theorem Cs.dr (h:Cs W A cs):Cs W.drew A cs:=h
theorem Cs.dn (h:Cs W A cs) (k:Nat):Cs (W.drewN k) A cs:=h
theorem Cs.of_own {base size:Nat} {e:TypeId} {n c:Nat} (h:W.ownsRow base e size (.slice A n c) n cs):Cs W A cs:=RC.of_own h
end
abbrev AL:=ByteArray × ByteArray × Int
def cellA (a:AL):List Value:=[.string a.1,.string a.2.1,.int .i64 a.2.2]
def cellsA (l:List AL):List Value:=l.flatMap cellA
theorem cellsA_snoc (l:List AL) (a:AL):cellsA (l ++ [a])=cellsA l ++ cellA a:=by unfold cellsA;rw [List.flatMap_append];simp
theorem cellsA_len:∀ l:List AL,(cellsA l).length=l.length * 3
 | []=>rfl
 | a :: l=>by
   have:=cellsA_len l
   show (cellA a ++ cellsA l).length=_
   rw [List.length_append,this];simp [cellA];omega
theorem cellsA_get:∀ {l:List AL} {k:Nat} {a:AL},l[k]? = some a→(cellsA l)[k * 3]? = some (.string a.1)∧(cellsA l)[k * 3 + 1]? = some (.string a.2.1)∧(cellsA l)[k * 3 + 2]? = some (.int .i64 a.2.2)
 | [],k,a,h=>by simp at h
 | b :: l,0,a,h=>by
   simp at h;subst h
   exact ⟨rfl,rfl,rfl⟩
 | b :: l,k + 1,a,h=>by
   have h1:=cellsA_get (l:=l) (k:=k) (by simpa using h)
   have e:∀ i,(cellsA (b :: l))[(k + 1) * 3 + i]? = (cellsA l)[k * 3 + i]?:=fun i=>by
    show (cellA b ++ cellsA l)[(k + 1) * 3 + i]? = _
    rw [List.getElem?_append_right (by simp [cellA];omega)]
    congr 1
    simp [cellA];omega
   exact ⟨(e 0).trans h1.1,(e 1).trans h1.2.1,(e 2).trans h1.2.2⟩
abbrev Has3 (W:World) (ad:Addr) (a:AL):Prop :=
 W.cell? ad=some (.string a.1)∧W.cell? ⟨ad.block,ad.off + 1,none⟩=some (.string a.2.1)∧W.cell? ⟨ad.block,ad.off + 2,none⟩=some (.int .i64 a.2.2)
theorem cs_at3 {W:World} {A:Option Addr} {l:List AL} {k:Nat} {a:AL} (h:Cs W A (cellsA l)) (hk:l[k]? = some a):∃ ad,A=some ad∧ad.block < W.heap.size∧Has3 W (ad.add (k * 3)) a:=by
 have hl:k < l.length:=(List.getElem?_eq_some_iff.1 hk).1
 obtain ⟨ad,e,hb,hc⟩:=h.out (by rw [cellsA_len];omega)
 obtain ⟨h0,h1,h2⟩:=cellsA_get hk
 have c0:=hc _ _ h0
 have c1:=hc _ _ h1
 have c2:=hc _ _ h2
 have ea:∀ i,(⟨(ad.add (k * 3)).block,(ad.add (k * 3)).off + (i + 1),none⟩:Addr)=ad.add (k * 3 + (i + 1)):=fun i=>by
  unfold Addr.add
  split <;> split <;> simp_all <;> omega
 refine ⟨ad,e,hb,c0,?_,?_⟩
 ·rw [ea 0];exact c1
 ·rw [ea 1];exact c2
theorem take_moreA {α:Type} {l l':List α} {k:Nat} {x:α} (h:l[k]? = some x) (h':l'[k]? = some x) (ht:l.take k=l'.take k):l.take (k + 1)=l'.take (k + 1):=by
 obtain ⟨a,b⟩:=List.getElem?_eq_some_iff.1 h
 obtain ⟨c,d⟩:=List.getElem?_eq_some_iff.1 h'
 rw [List.take_succ_eq_append_getElem a,List.take_succ_eq_append_getElem c,ht,b,d]
def sameA (l l':List AL):Bool:=decide (l=l')
theorem eqA_al (a b:AL):eqA a.1 a.2.1 a.2.2 b.1 b.2.1 b.2.2=decide (a=b):=by
 obtain ⟨p,n,k⟩:=a
 obtain ⟨p',n',k'⟩:=b
 unfold eqA
 rw [Bool.eq_iff_iff];simp
theorem addr_add (a:Addr) (n j:Nat):(a.add n).add j=a.add (n + j):=by
 unfold Addr.add
 split <;> split <;> simp_all <;> omega
theorem Ss.drop {W:World} {ad:Addr} {xs:List ByteArray} (h:Ss W (some ad) xs) (k:Nat):Ss W (some (ad.add k)) (xs.drop k):=fun h0=>by
 rw [List.length_drop] at h0
 obtain ⟨ad',e,hb,hc⟩:=h.out (by omega)
 injection e with e
 subst e
 refine ⟨_,rfl,by rw [yblock_add];exact hb,fun j x hj=>?_⟩
 rw [addr_add]
 exact hc _ x (by rw [List.getElem?_drop] at hj;exact hj)
theorem Ss.sub {W:World} {D:Option Addr} {xs:List ByteArray} {g t:Nat} (h:Ss W D xs) (hg:xs.length≤g):Ss W (if g=t then D else Option.map (fun x=>x.add t) D) (xs.drop t):=by
 by_cases e:g=t
 ·rw [List.drop_eq_nil_of_le (by omega)]
  exact RS.nil
 ·rw [if_neg e]
  cases D with
  | none =>
    intro h0
    rw [List.length_drop] at h0
    obtain ⟨ad,e,_⟩:=h.out (by omega)
    cases e
  | some ad=>exact h.drop t
theorem parseU_t (names ps:List ByteArray) (k t:Nat) (u:ByteArray):(parseU names ps k t u).ok=true→(parseU names ps k t u).t=t + 1:=by
 unfold parseU
 split
 ·intro _;rfl
 ·intro h;cases h
theorem parseA_t {names ps l:List ByteArray} (h:(parseA names ps l).ok=true):1≤(parseA names ps l).t∧(parseA names ps l).t≤2∧(parseA names ps l).t≤l.length:=by
 have h2:=(leadP_le l).2
 revert h
 unfold parseA
 cases e:l[(leadP l).2]? with
 | none=>intro h;cases h
 | some u =>
   intro h
   have h3:=(List.getElem?_eq_some_iff.1 e).1
   have h4:(parseU names ps (leadP l).1 (leadP l).2 u).t=(leadP l).2 + 1:=parseU_t _ _ _ _ _ h
   show 1≤(parseU names ps (leadP l).1 (leadP l).2 u).t∧(parseU names ps (leadP l).1 (leadP l).2 u).t≤2∧(parseU names ps (leadP l).1 (leadP l).2 u).t≤l.length
   omega
def atomsF (names ps:List ByteArray):Nat→List ByteArray→Option (List AL)
 | _,[]=>some []
 | 0,_ :: _=>none
 | f + 1,u :: l=>if (parseA names ps (u :: l)).ok then ((atomsF names ps f ((u :: l).drop (parseA names ps (u :: l)).t)).map fun r=>((parseA names ps (u :: l)).p,(parseA names ps (u :: l)).n,((parseA names ps (u :: l)).k:Int)) :: r) else none
def atomsL (names ps l:List ByteArray):Option (List AL):=atomsF names ps l.length l
section
variable {names ps:List ByteArray}
theorem atomsF_more:∀ {f f':Nat} {l:List ByteArray},l.length≤f→l.length≤f'→atomsF names ps f l=atomsF names ps f' l
 | f,f',[],_,_=>by cases f <;> cases f' <;> rfl
 | f + 1,f' + 1,u :: l,h,h'=>by
   unfold atomsF
   by_cases e:(parseA names ps (u :: l)).ok=true
   ·rw [if_pos e,if_pos e]
    have h1:=parseA_t e
    have h2:((u :: l).drop (parseA names ps (u :: l)).t).length≤l.length:=by rw [List.length_drop,List.length_cons];omega
    rw [atomsF_more (f:=f) (f':=f') (by simp at h;omega) (by simp at h';omega)]
   ·rw [if_neg e,if_neg e]
theorem atomsL_nil:atomsL names ps []=some []:=rfl
theorem atomsL_bad {l:List ByteArray} (hn:0 < l.length) (h:(parseA names ps l).ok=false):atomsL names ps l=none:=by
 cases l with
 | nil=>simp at hn
 | cons u l =>
   unfold atomsL
   rw [List.length_cons,atomsF,if_neg (by rw [h];simp)]
theorem atomsL_more {l:List ByteArray} (h:(parseA names ps l).ok=true):atomsL names ps l=(atomsL names ps (l.drop (parseA names ps l).t)).map fun r=>((parseA names ps l).p,(parseA names ps l).n,((parseA names ps l).k:Int)) :: r:=by
 have h1:=parseA_t h
 cases l with
 | nil=>simp at h1;omega
 | cons u l =>
   unfold atomsL
   rw [List.length_cons,atomsF,if_pos h]
   congr 1
   exact atomsF_more (by rw [List.length_drop,List.length_cons];omega) (Nat.le_refl _)
def combA (acc:List AL) (r:Option (List AL)):Option (List AL):=r.map (acc ++ ·)
theorem combA_start (r:Option (List AL)):combA [] r=r:=by cases r <;> rfl
theorem combA_end (acc:List AL):combA acc (some [])=some acc:=by simp [combA]
theorem combA_bad {acc:List AL} {l:List ByteArray} (hn:0 < l.length) (h:(parseA names ps l).ok=false):combA acc (atomsL names ps l)=none:=by rw [atomsL_bad hn h];rfl
theorem combA_more {acc:List AL} {l:List ByteArray} {p n:ByteArray} {k t:Nat} (h:parseA names ps l=⟨p,n,k,t,true⟩):combA acc (atomsL names ps l)=combA (acc ++ [(p,n,(k:Int))]) (atomsL names ps (l.drop t)):=by
 rw [atomsL_more (by rw [h]),h]
 unfold combA
 cases atomsL names ps (l.drop t) <;> simp
end
theorem infoAtomC:(Tryz.prog.info? 166).map (fun i=>(i.zero,i.size,i.bytes))=some (some (.agg #[.string ByteArray.empty,.string ByteArray.empty,.int .i64 0]),3,40):=by kernel_rfl
theorem own_up {W W':World} {base size n:Nat} {e:TypeId} {v:Value} {xs:List Value} (h:W.ownsRow base e size v n xs) (hb:Hid (Below W.heap.size W W')):W'.ownsRow base e size v n xs :=
 h.kept (row:=none) ⟨hb.out.os,hb.out.tape,hb.out.output,hb.out.size,fun k hk _=>hb.out.block k hk⟩ (by cases v.ownBlock <;> simp)
theorem own_slice {W:World} {base size n:Nat} {e:TypeId} {v:Value} {xs:List Value} (h:W.ownsRow base e size v n xs):∃ A c,v = .slice A n c∧(A=none→c=0):=by
 rcases h.2 with ⟨rfl,rfl⟩ | ⟨g,cap,cur,rfl,_⟩
 ·exact ⟨none,0,rfl,fun _=>rfl⟩
 ·exact ⟨_,cap,rfl,fun h=>by cases h⟩
theorem own_base {W:World} {base base' size n:Nat} {e:TypeId} {v:Value} {xs:List Value} (h:W.ownsRow base e size v n xs) (hb:base'≤base):W.ownsRow base' e size v n xs:=by
 refine ⟨h.1,?_⟩
 rcases h.2 with h2 | ⟨g,cap,cur,h3,h4,h5⟩
 ·exact .inl h2
 ·exact .inr ⟨g,cap,cur,h3,Nat.le_trans hb h4,h5⟩
theorem at_news {W:World} {b:Nat} {xs:List Value} (h:At W b xs):∀ j u,xs[j]? = some u→W.cell? ((⟨b,0,none⟩:Addr).add j)=some u:=fun j u hu=>by
 have e:(⟨b,0,none⟩:Addr).add j=⟨b,j,none⟩:=by unfold Addr.add;split <;> simp_all
 rw [e];exact At.ci h hu
theorem cellA_one (a:AL):∀ u ∈ cellA a,u.oneCell'=true:=by
 intro u hu
 simp only [cellA,List.mem_cons,List.not_mem_nil,or_false] at hu
 rcases hu with rfl | rfl | rfl <;> rfl
end Go.Proofs.YtfflmmbhpchloaaGreatDoor
end
