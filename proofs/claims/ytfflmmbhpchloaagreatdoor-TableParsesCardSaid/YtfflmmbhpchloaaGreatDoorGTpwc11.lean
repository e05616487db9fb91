/- Each theorem here says its own conditions. -/
import Derived.Test.YtfflmmbhpchloaaGreatDoorGTpwc10
set_option maxRecDepth 100000
set_option maxHeartbeats 16000000
section
open Go.RowKit
namespace Go.Proofs.YtfflmmbhpchloaaGreatDoor
theorem pre4 (w:World) (o1 o2:Obj) (v u:Value) (t:TypeId) (k:Nat) :
 Below w.heap.size w (((((w.alloc o1).alloc o2).alloc (.cells #[v] t)).alloc (.cells #[u] t)).drewN k)∧(((((w.alloc o1).alloc o2).alloc (.cells #[v] t)).alloc (.cells #[u] t)).drewN k).heap.size=w.heap.size + 4 ∧
 (((((w.alloc o1).alloc o2).alloc (.cells #[v] t)).alloc (.cells #[u] t)).drewN k).heap[w.heap.size + 2]? = some (.cells #[v] t (0,0)) ∧
 (((((w.alloc o1).alloc o2).alloc (.cells #[v] t)).alloc (.cells #[u] t)).drewN k).heap[w.heap.size + 3]? = some (.cells #[u] t (0,0)):=by
 obtain ⟨p1,p2,p3⟩:=pre3 w o1 o2 v t 0
 refine ⟨below_drewN (((((Below.refl _ _).alloc (Nat.le_refl _) _).alloc (by simp) _).alloc (by simp;omega) _).alloc (by simp;omega) _) k,by simp,?_,?_⟩
 ·exact (Below.heap_alloc _ _ _ (by simp)).trans p3
 ·have:=heap_alloc_new (((w.alloc o1).alloc o2).alloc (.cells #[v] t)) (.cells #[u] t)
  simpa using this
theorem dl0:dl 0=0:=by unfold dl;rw [digs_zero];rfl
theorem after4 {w w1:World} {o1 o2:Obj} {v u:Value} {t:TypeId} {k:Nat} (h:Below (((((w.alloc o1).alloc o2).alloc (.cells #[v] t)).alloc (.cells #[u] t)).drewN k).heap.size (((((w.alloc o1).alloc o2).alloc (.cells #[v] t)).alloc (.cells #[u] t)).drewN k) w1) :
 Below w.heap.size w w1∧w1.heap[w.heap.size + 2]? = some (.cells #[v] t (0,0))∧w1.heap[w.heap.size + 3]? = some (.cells #[u] t (0,0))∧w.heap.size + 4≤w1.heap.size:=by
 obtain ⟨p1,p2,p3,p4⟩:=pre4 w o1 o2 v u t k
 exact ⟨p1.trans (h.mono p1.size),(h.block _ (by omega)).trans p3,(h.block _ (by omega)).trans p4,by have:=h.size;omega⟩
def DivPost (w:World) (m n:Nat) (e:Ending) (w':World):Prop :=
 ∃ A c A' c',e = .returned (.tuple #[.agg #[.slice A (dl (m / n)) c],.agg #[.slice A' (dl (m % n)) c'],.bool true])∧Hid (Can w' w'.heap.size A c (m / n))∧Hid (Can w' w'.heap.size A' c' (m % n))∧Hid (Below w.heap.size w w')
theorem Div_less {A A':Option Addr} {n n' c c' m m':Nat} {w:World} (h:Arg w w.heap.size A n c m) (h':Arg w w.heap.size A' n' c' m') (h0:m < m') :
 Calls Tryz.prog 71 #[.agg #[.slice A n c],.agg #[.slice A' n' c']] w (DivPost w m m'):=by
 have H:Hid (∀ o1 o2 v u t k,Arg (((((w.alloc o1).alloc o2).alloc (.cells #[v] t)).alloc (.cells #[u] t)).drewN k) w.heap.size A n c m):=fun o1 o2 v u t k=>h.below (pre4 w o1 o2 v u t k).1
 have H':Hid (∀ o1 o2 v u t k,Arg (((((w.alloc o1).alloc o2).alloc (.cells #[v] t)).alloc (.cells #[u] t)).drewN k) w.heap.size A' n' c' m'):=fun o1 o2 v u t k=>h'.below (pre4 w o1 o2 v u t k).1
 have hl:dl m≤100000:=by have:=h.digs.2;obtain ⟨_,_,_,h3,_⟩:=h;omega
 have hl':dl m'≤100000:=by have:=h'.digs.2;obtain ⟨_,_,_,h3,_⟩:=h';omega
 have hd:0 < dl m':=by
  rcases Nat.eq_zero_or_pos (dl m') with h1 | h1
  ·have:=dl_zero h1;omega
  ·exact h1
 have hdz:(((dl m':Nat):Int) == 0)=false:=by rw [beq_eq_false_iff_ne];omega
 have hcm:cmpI m m' < 0:=by rw [cmpI_lt h0];omega
 have HX:=hide h.digs.1
 have HLT:=hide h0
 clear h h' h0
 go_enter Tryz.func71,Tryz.ntmps71
 go_wp2_with fail
 go_quiet ((go_at_call 75;first | exact quiet_left (trim_arg (H.out _ _ _ _ _ _)) | exact quiet_left (trim_arg (H'.out _ _ _ _ _ _))))
 go_wp2_with (first | (go_at_call 100;go_must (refine (compare_can (H.out _ _ _ _ _ _).digs.1 (H'.out _ _ _ _ _ _).digs.1 hl hl').mono ?_);rintro e w' ⟨rfl,q,rfl⟩) | (go_at_call 74;go_must (refine (fresh_can ((HX.out.below (pre4 w _ _ _ _ _ _).1).more (pre4 w _ _ _ _ _ _).1.size).2 (by omega)).mono ?_);rintro e w1 ⟨g,rfl,HGE,HBLK,HBEL⟩;obtain ⟨hw1,hq2,hq3,hsz⟩:=after4 HBEL.out;have HW1:=hide hw1;have r2:=(one_cell hq2).1;have f2:=(one_cell hq2).2;have r3:=(one_cell hq3).1;have f3:=(one_cell hq3).2;have HGB:=hide (Nat.le_trans (Nat.le_of_eq (pre4 w _ _ _ _ _ _).2.1.symm) HGE.out);clear hq2 hq3 hw1 HGE HBEL))
 refine bodyPost_ret (v:=.tuple #[.agg #[.slice none 0 0],.agg #[.slice (some ⟨g,0,none⟩) (dl m) (dl m)],.bool true]) (by simp [results,Tryz.results71,go_sem,r2,r3]) rfl ?_
 have hgb:=HGB.out
 refine ⟨none,0,some ⟨g,0,none⟩,dl m,by rw [Nat.div_eq_of_lt HLT.out,Nat.mod_eq_of_lt HLT.out,dl0],?_,?_,(HW1.out.setCell (by simp;omega) _).setCell (by simp;omega) _⟩
 ·rw [Nat.div_eq_of_lt HLT.out]
  exact ⟨by rw [dl0];exact Nat.le_refl _,by rw [digs_zero];exact Rd.nil⟩
 ·rw [Nat.mod_eq_of_lt HLT.out]
  exact can_own ((HBLK.out.far (p:=⟨w.heap.size + 1 + 1,0,none⟩) (by simp;omega) _).far (p:=⟨w.heap.size + 1 + 1 + 1,0,none⟩) (by simp;omega) _) (show dl m=(digs W32 m).length from rfl) (good_digs m) (Nat.le_refl _) (val_digs32 m)
theorem Rd.setBox {w:World} {B:Nat} {A:Option Addr} {xs:List Nat} (h:Rd U32 w B A xs) {p:Addr} {a:Option Addr} {l c:Nat} (hc:w.cell? p=some (.slice a l c)) (u:Value):Rd U32 (w.setCell p u) B A xs:=fun hn=>by
 obtain ⟨ad,e,hb,hx⟩:=h hn
 refine ⟨ad,e,hb,fun j x hj=>?_⟩
 have h1:=hx j x hj
 rw [World.cell?_setCell_other w p _ u (by intro e;rw [← e,hc] at h1;cases h1)]
 exact h1
theorem div_parts {w:World} {g m d rest:Nat} {q:List Nat} {w2:World} (_h:Hid (Blk U32 142 w g (digs W32 m))) (_hq1:Hid (q.length=dl m)) (hq3:Hid (val W32 ((digs W32 m).take (dl m))=val W32 q * d + rest)) (hq4:Hid (Blk U32 142 w2 g (q ++ (digs W32 m).drop (dl m)))) (hr:rest < d) :
 Hid (Blk U32 142 w2 g q)∧Hid (val W32 q=m / d)∧Hid (rest=m % d):=by
 have h1:=hq3.out
 rw [List.take_of_length_le (show (digs W32 m).length≤dl m from Nat.le_refl _),val_digs32] at h1
 have h2:=hq4.out
 rw [List.drop_of_length_le (show (digs W32 m).length≤dl m from Nat.le_refl _),List.append_nil] at h2
 refine ⟨h2,?_,?_⟩
 ·unfold Hid
  rw [h1,Nat.mul_comm,Nat.mul_add_div (by omega),Nat.div_eq_of_lt hr,Nat.add_zero]
 ·unfold Hid
  rw [h1,Nat.mul_comm,Nat.mul_add_mod,Nat.mod_eq_of_lt hr]
theorem Div_one {A A':Option Addr} {n n' c c' m m':Nat} {w:World} (h:Arg w w.heap.size A n c m) (h':Arg w w.heap.size A' n' c' m') (h0:m'≤m) (h1:dl m'=1) :
 Calls Tryz.prog 71 #[.agg #[.slice A n c],.agg #[.slice A' n' c']] w (DivPost w m m'):=by
 have H:Hid (∀ o1 o2 v u t k,Arg (((((w.alloc o1).alloc o2).alloc (.cells #[v] t)).alloc (.cells #[u] t)).drewN k) w.heap.size A n c m):=fun o1 o2 v u t k=>h.below (pre4 w o1 o2 v u t k).1
 have H':Hid (∀ o1 o2 v u t k,Arg (((((w.alloc o1).alloc o2).alloc (.cells #[v] t)).alloc (.cells #[u] t)).drewN k) w.heap.size A' n' c' m'):=fun o1 o2 v u t k=>h'.below (pre4 w o1 o2 v u t k).1
 have hl:dl m≤100000:=by have:=h.digs.2;obtain ⟨_,_,_,h3,_⟩:=h;omega
 have hcm:¬ cmpI m m' < 0:=by unfold cmpI;rw [if_neg (by omega)];split <;> omega
 obtain ⟨hdg,hmw⟩:=digs_one h1
 have hm9:m'≤4294967295:=word_le hmw
 have hm0:1≤m':=by
  rcases Nat.eq_zero_or_pos m' with rfl | h2
  ·rw [dl0] at h1;omega
  ·exact h2
 have HX:=hide h.digs.1
 have hy2:=h'.digs.1.2
 rw [hdg] at hy2
 obtain ⟨ad,rfl,hab,hca⟩:=hy2.at_ (k:=0) (by simp)
 replace hca:w.cell? ad=some (.int .u32 (m':Int)):=hca
 replace hab:ad.block < w.heap.size:=hab
 have HH1:=hide h1
 have HDL:=hide (show dl m'≤100000 by omega)
 have HCA:=hide hca
 have HAB:=hide hab
 have T':Hid (∀ o1 o2 v u t k,Calls Tryz.prog 75 #[.slice (some ad) n' c'] (((((w.alloc o1).alloc o2).alloc (.cells #[v] t)).alloc (.cells #[u] t)).drewN k) fun e w'=>e = .returned (.slice (some ad) 1 c')∧(((((w.alloc o1).alloc o2).alloc (.cells #[v] t)).alloc (.cells #[u] t)).drewN k)=w'):=fun o1 o2 v u t k=>by
  have h5:=trim_arg (H'.out o1 o2 v u t k)
  rw [h1] at h5
  exact h5
 have CC:Hid (∀ o1 o2 v u t k,Calls Tryz.prog 100 #[.slice A (dl m) c,.slice (some ad) 1 c'] (((((w.alloc o1).alloc o2).alloc (.cells #[v] t)).alloc (.cells #[u] t)).drewN k) fun e w'=>e = .returned (.int .i64 (cmpI m m')) ∧ ∃ q,w'=(((((w.alloc o1).alloc o2).alloc (.cells #[v] t)).alloc (.cells #[u] t)).drewN k).drewN q):=fun o1 o2 v u t k=>by
  have h5:=compare_can (H.out o1 o2 v u t k).digs.1 (H'.out o1 o2 v u t k).digs.1 hl HDL.out
  rw [h1] at h5
  exact h5
 clear h h' h0 h1 hdg hmw hy2 hca hab
 go_enter Tryz.func71,Tryz.ntmps71
 go_wp2_with fail
 go_quiet ((go_at_call 75;first | exact quiet_left (trim_arg (H.out _ _ _ _ _ _)) | exact quiet_left (T'.out _ _ _ _ _ _)))
 go_wp2_with (first | (go_at_call 100;go_must (refine (CC.out _ _ _ _ _ _).mono ?_);rintro e w' ⟨rfl,q,rfl⟩) | (go_at_call 74;go_must (refine (fresh_can ((HX.out.below (pre4 w _ _ _ _ _ _).1).more (pre4 w _ _ _ _ _ _).1.size).2 (by omega)).mono ?_);rintro e w1 ⟨g,rfl,HGE,HBLK,HBEL⟩;obtain ⟨hw1,hq2,hq3,hsz⟩:=after4 HBEL.out;have HW1:=hide hw1;have HQ2:=hide hq2;have HQ3:=hide hq3;have HGB:=hide (Nat.le_trans (Nat.le_of_eq (pre4 w _ _ _ _ _ _).2.1.symm) HGE.out);have hcy:w1.cell? ad=some (.int .u32 (m':Int)):=(hw1.cell HAB.out).trans HCA.out;clear hq2 hq3 hw1 HGE HBEL) | (go_at_call 76;go_must (refine (divideByWord_any (k:=dl m) (d:=m') HBLK.out (Nat.le_refl _) (good_digs m) (by omega) hm9 hm0).mono ?_);rintro e w2 ⟨q2,rest,rfl,hq1,hq2,hrest,hq3,hq4,hq5⟩;have HQ5:=hide hq5;clear hq5;obtain ⟨HB2,HQV,HRV⟩:=div_parts HBLK hq1 hq3 hq4 hrest;have hz2:=HGB.out;have HR2:=hide ((HQ5.out.block _ (by omega) (by intro e;injection e with e;omega)).trans HQ2.out);have HR3:=hide ((HQ5.out.block _ (by omega) (by intro e;injection e with e;omega)).trans HQ3.out);have HS2:=hide HQ5.out.size) | (go_at_call 75;go_must (refine (trim_own HB2.out hq1.out.symm hq2.out (by omega) (Nat.le_refl _) HQV.out).mono ?_);rintro e w5 ⟨rfl,rfl⟩) | (go_at_call 66;go_must (refine (Of_any (n:=rest) (by omega)).mono ?_);rintro e w3 ⟨A3,c3,rfl,hcn,hbl⟩;have HCN:=hide hcn;have HBL:=hide hbl;obtain ⟨r2,f2⟩:=one_cell ((hbl.block _ (by have:=HS2.out;omega)).trans HR2.out);obtain ⟨r3,f3⟩:=one_cell ((hbl.block _ (by have:=HS2.out;omega)).trans HR3.out);clear hcn hbl))
 refine bodyPost_ret (v:=.tuple #[.agg #[.slice (some ⟨g,0,none⟩) (dl (m / m')) (dl m)],.agg #[.slice A3 (dl rest) c3],.bool true]) (by simp [results,Tryz.results71,go_sem,r2,r3]) rfl ?_
 have hgb:=HGB.out
 have hb2:Blk U32 142 w3 g q2:=HB2.out.below HBL.out HB2.out.lt
 refine ⟨some ⟨g,0,none⟩,dl m,A3,c3,by rw [HRV.out],?_,?_,?_⟩
 ·exact can_own ((hb2.far (p:=⟨w.heap.size + 1 + 1,0,none⟩) (by simp;omega) _).far (p:=⟨w.heap.size + 1 + 1 + 1,0,none⟩) (by simp;omega) _) hq1.out.symm hq2.out (Nat.le_refl _) HQV.out
 ·rw [← HRV.out]
  have h23:(w3.setCell ⟨w.heap.size + 1 + 1,0,none⟩ (.slice (some ⟨g,0,none⟩) (dl (m / m')) (dl m))).cell? ⟨w.heap.size + 1 + 1 + 1,0,none⟩=some (.slice none 0 0) :=
   (World.cell?_setCell_other w3 _ _ _ (by intro e;injection e with e;omega)).trans r3
  refine ⟨HCN.out.1,?_⟩
  have h1:=Rd.setBox (Rd.setBox HCN.out.2 (p:=⟨w.heap.size + 1 + 1,0,none⟩) r2 (.slice (some ⟨g,0,none⟩) (dl (m / m')) (dl m))) h23 (.slice A3 (dl rest) c3)
  simpa [World.setCell] using h1
 ·exact (((HW1.out.trans (grown_below HQ5.out (by omega) HBLK.out.lt)).trans (HBL.out.mono (Nat.le_trans HW1.out.size HS2.out))).setCell (by simp;omega) _).setCell (by simp;omega) _
theorem Div_long {A A':Option Addr} {n n' c c' m m':Nat} {w:World} (h:Arg w w.heap.size A n c m) (h':Arg w w.heap.size A' n' c' m') (h0:m'≤m) (h1:2≤dl m') (hl9:dl m≤99999) :
 Calls Tryz.prog 71 #[.agg #[.slice A n c],.agg #[.slice A' n' c']] w (DivPost w m m'):=by
 have H:Hid (∀ o1 o2 v u t k,Arg (((((w.alloc o1).alloc o2).alloc (.cells #[v] t)).alloc (.cells #[u] t)).drewN k) w.heap.size A n c m):=fun o1 o2 v u t k=>h.below (pre4 w o1 o2 v u t k).1
 have H':Hid (∀ o1 o2 v u t k,Arg (((((w.alloc o1).alloc o2).alloc (.cells #[v] t)).alloc (.cells #[u] t)).drewN k) w.heap.size A' n' c' m'):=fun o1 o2 v u t k=>h'.below (pre4 w o1 o2 v u t k).1
 have hl:dl m≤100000:=by omega
 have hmono:dl m'≤dl m:=digs_len_mono (b:=W32) (by decide) h0
 have hcm:¬ cmpI m m' < 0:=by unfold cmpI;rw [if_neg (by omega)];split <;> omega
 have H0:=hide h0
 have hd1:(((dl m':Nat):Int) == 0)=false:=by rw [beq_eq_false_iff_ne];omega
 have hd2:(((dl m':Nat):Int) == 1)=false:=by rw [beq_eq_false_iff_ne];omega
 have CC:Hid (∀ o1 o2 v u t k,Calls Tryz.prog 100 #[.slice A (dl m) c,.slice A' (dl m') c'] (((((w.alloc o1).alloc o2).alloc (.cells #[v] t)).alloc (.cells #[u] t)).drewN k) fun e w'=>e = .returned (.int .i64 (cmpI m m')) ∧ ∃ q,w'=(((((w.alloc o1).alloc o2).alloc (.cells #[v] t)).alloc (.cells #[u] t)).drewN k).drewN q):=fun o1 o2 v u t k =>
  compare_can (H.out o1 o2 v u t k).digs.1 (H'.out o1 o2 v u t k).digs.1 hl (by omega)
 have CL:Hid (∀ o1 o2 v u t k,Calls Tryz.prog 103 #[.slice A (dl m) c,.slice A' (dl m') c'] (((((w.alloc o1).alloc o2).alloc (.cells #[v] t)).alloc (.cells #[u] t)).drewN k) (LongPost (((((w.alloc o1).alloc o2).alloc (.cells #[v] t)).alloc (.cells #[u] t)).drewN k) m m')):=fun o1 o2 v u t k=>by
  have p:=(pre4 w o1 o2 v u t k).1.size
  exact divideLong_any ((H.out o1 o2 v u t k).digs.1.more p) ((H'.out o1 o2 v u t k).digs.1.more p) H0.out h1 hl9
 clear h h' h0 h1 hl9
 go_enter Tryz.func71,Tryz.ntmps71
 go_wp2_with fail
 go_quiet ((go_at_call 75;first | exact quiet_left (trim_arg (H.out _ _ _ _ _ _)) | exact quiet_left (trim_arg (H'.out _ _ _ _ _ _))))
 go_wp2_with (first | (go_at_call 100;go_must (refine (CC.out _ _ _ _ _ _).mono ?_);rintro e w' ⟨rfl,q,rfl⟩) | (go_at_call 103;go_must (refine (CL.out _ _ _ _ _ _).mono ?_);rintro e w1 ⟨gq,gr,nq,nr,Q,R,rfl,hq,hqq,hr,hrr,hge,hbel⟩;obtain ⟨hw1,hq2,hq3,hsz⟩:=after4 hbel.out;have HW1:=hide hw1;have r2:=(one_cell hq2).1;have f2:=(one_cell hq2).2;have r3:=(one_cell hq3).1;have f3:=(one_cell hq3).2;clear hq2 hq3 hw1 hbel) | (go_at_call 75;(with_reducible refine (trim_own hq.out hqq.out.1 hqq.out.2.1 (by have:=hqq.out.2.2.1;omega) (Nat.le_refl _) hqq.out.2.2.2).mono ?_);rintro e w5 ⟨rfl,rfl⟩) | (go_at_call 75;(with_reducible refine (trim_own hr.out hrr.out.1 hrr.out.2.1 (by have:=hrr.out.2.2.1;omega) (Nat.le_refl _) hrr.out.2.2.2).mono ?_);rintro e w6 ⟨rfl,rfl⟩))
 refine bodyPost_ret (v:=.tuple #[.agg #[.slice (some ⟨gq,0,none⟩) (dl (m / m')) nq],.agg #[.slice (some ⟨gr,0,none⟩) (dl (m % m')) nr],.bool true]) (by simp [results,Tryz.results71,go_sem,r2,r3]) rfl ?_
 obtain ⟨ha,hb⟩:=hge.out
 rw [(pre4 w _ _ _ _ _ _).2.1] at ha hb
 refine ⟨some ⟨gq,0,none⟩,nq,some ⟨gr,0,none⟩,nr,rfl,?_,?_,(HW1.out.setCell (by simp;omega) _).setCell (by simp;omega) _⟩
 ·exact can_own ((hq.out.far (p:=⟨w.heap.size + 1 + 1,0,none⟩) (by simp;omega) _).far (p:=⟨w.heap.size + 1 + 1 + 1,0,none⟩) (by simp;omega) _) hqq.out.1 hqq.out.2.1 (Nat.le_refl _) hqq.out.2.2.2
 ·exact can_own ((hr.out.far (p:=⟨w.heap.size + 1 + 1,0,none⟩) (by simp;omega) _).far (p:=⟨w.heap.size + 1 + 1 + 1,0,none⟩) (by simp;omega) _) hrr.out.1 hrr.out.2.1 (Nat.le_refl _) hrr.out.2.2.2
theorem Div_any {A A':Option Addr} {n n' c c' m m':Nat} {w:World} (h:Arg w w.heap.size A n c m) (h':Arg w w.heap.size A' n' c' m') (h0:0 < m') (hl:dl m≤99999) :
 Calls Tryz.prog 71 #[.agg #[.slice A n c],.agg #[.slice A' n' c']] w (DivPost w m m'):=by
 rcases Nat.lt_or_ge m m' with h1 | h1
 ·exact Div_less h h' h1
 ·rcases Nat.lt_or_ge (dl m') 2 with h2 | h2
  ·refine Div_one h h' h1 ?_
   rcases Nat.eq_zero_or_pos (dl m') with h3 | h3
   ·have:=dl_zero h3;omega
   ·omega
  ·exact Div_long h h' h1 h2 hl
theorem toList_drop1 (t:ByteArray):(t.extract 1 t.size).data.toList=t.data.toList.drop 1:=by
 rw [Lib.extract_data,List.take_of_length_le]
 rw [List.length_drop];exact Nat.le_refl _
theorem size_list (t:ByteArray):t.size=t.data.toList.length:=rfl
def TrimPost (l:List UInt8) (w:World) (e:Ending) (w':World):Prop:=∃ t:ByteArray,e = .returned (.string t)∧t.data.toList=l.dropWhile (· == 48)∧w=w'
theorem drop_yes {t:ByteArray} {h:0 < t.size} (hx:t[0]=48):t.data.toList.dropWhile (· == 48)=(t.data.toList.drop 1).dropWhile (· == 48):=by
 obtain ⟨⟨l⟩⟩:=t
 cases l with
 | nil=>simp [ByteArray.size] at h
 | cons a l =>
   have:a=48:=hx
   subst this
   rfl
theorem drop_no {t:ByteArray} {h:0 < t.size} (hx:t[0] ≠ 48):t.data.toList.dropWhile (· == 48)=t.data.toList:=by
 obtain ⟨⟨l⟩⟩:=t
 cases l with
 | nil=>simp [ByteArray.size] at h
 | cons a l =>
   have:(a == 48)=false:=by
    have:a ≠ 48:=hx
    simpa using this
   rw [List.dropWhile_cons,this];rfl
theorem trimByte_any (s:ByteArray) (w:World) :
 Calls Tryz.prog 105 #[.string s,.int .u8 48] w (TrimPost s.data.toList w):=by
 go_enter Tryz.func105,Tryz.ntmps105
 go_wp2
 go_loop [0] (fun sv=>∃ t:ByteArray,sv = .string t∧Hid (s.data.toList.dropWhile (· == 48)=t.data.toList.dropWhile (· == 48))∧t.size≤s.size) (fun sv=>match sv with | .string t=>t.size | _=>0)
 case atStart=>exact ⟨s,rfl,rfl,Nat.le_refl _⟩
 case round =>
  obtain ⟨t,rfl,ht,hts⟩:=hrel
  by_cases h0:t.size=0
  ·have HZ:=hide h0
   have h1:¬ 0 < t.size:=by omega
   clear h0
   go_wp2
   go_ret
   exact ⟨t,rfl,by rw [ht.out,List.eq_nil_of_length_eq_zero (show t.data.toList.length=0 from HZ.out)];rfl,rfl⟩
  ·have h1:0 < t.size:=by omega
   by_cases hx:t[0]=48
   ·have HX:=hide hx
    have hxt:((t[0].toNat:Int) == 48)=true:=by rw [hx];rfl
    clear hx
    go_wp2
    go_round
    case rel=>exact ⟨_,rfl,by unfold Hid;rw [ht.out,toList_drop1,drop_yes HX.out],by simp;omega⟩
    case measure=>simp;omega
   ·have HX:=hide hx
    have hxt:((t[0].toNat:Int) == 48)=false:=by
     rw [beq_eq_false_iff_ne]
     intro e
     exact hx (UInt8.toNat_inj.1 (by simpa using (show t[0].toNat=48 by omega)))
    clear hx
    go_wp2
    go_ret
    exact ⟨t,rfl,by rw [ht.out,drop_no HX.out],rfl⟩
theorem TrimLeft_any (s:ByteArray) (w:World) :
 Calls Tryz.prog 78 #[.string s,.string ⟨#[48]⟩] w (TrimPost s.data.toList w):=by
 by_cases h0:s.size=0
 ·have hl:s.toList=[]:=by rw [Lib.toList_data];exact List.eq_nil_of_length_eq_zero h0
  have HL:Hid (s.data.toList=[]):=List.eq_nil_of_length_eq_zero h0
  clear h0
  go_enter Tryz.func78,Tryz.ntmps78
  go_wp2
  go_ret
  exact ⟨s,rfl,by rw [HL.out];rfl,rfl⟩
 ·have hl:s.toList.isEmpty=false:=by
   rw [Lib.toList_data]
   cases h:s.data.toList with
   | nil=>exact absurd (show s.size=0 by rw [size_list,h];rfl) h0
   | cons a l=>rfl
  clear h0
  go_enter Tryz.func78,Tryz.ntmps78
  go_wp2_with (first | (go_at_call 105;go_must (refine (trimByte_any s _).mono ?_);rintro e w' ⟨t,rfl,ht,rfl⟩))
  go_ret
  exact ⟨t,rfl,ht,rfl⟩
def isDig (c:UInt8):Bool:=decide (48≤c.toNat) && decide (c.toNat≤57)
def digB (l:List UInt8):Bool:=!l.isEmpty && l.all isDig
def numL (l:List UInt8):Nat:=l.foldl (fun a c=>a * 10 + (c.toNat - 48)) 0
theorem numL_snoc (l:List UInt8) (c:UInt8):numL (l ++ [c])=numL l * 10 + (c.toNat - 48):=by simp [numL]
theorem take_snoc {s:ByteArray} {k:Nat} (h:k < s.size):s.data.toList.take (k + 1)=s.data.toList.take k ++ [s[k]]:=by
 rw [List.take_succ_eq_append_getElem (by simpa using h)];rfl
theorem bool_ret {a b:Bool} (h:a=b):Ending.returned (.bool a) = .returned (.bool b):=by rw [h]
theorem dig_iff (c:UInt8):isDig c=true ↔ 48≤(c.toNat:Int)∧(c.toNat:Int)≤57:=by unfold isDig;simp;omega
theorem isDigits_any (s:ByteArray) (w:World) (hs:s.size≤maxLen) :
 Calls Tryz.prog 194 #[.string s] w fun e w'=>e = .returned (.bool (digB s.data.toList))∧w=w':=by
 unfold maxLen at hs
 by_cases h0:s.size=0
 ·have hl:s.toList=[]:=by rw [Lib.toList_data];exact List.eq_nil_of_length_eq_zero h0
  have HL:Hid (s.data.toList=[]):=List.eq_nil_of_length_eq_zero h0
  have HZ:=hide h0
  have h1:¬ 0 < s.size:=by omega
  clear h0
  go_enter Tryz.func194,Tryz.ntmps194
  go_wp2
  refine wp_loop_rounds 1 ?_;rw [rounds_succ]
  go_wp2
  go_ret
  exact ⟨by rw [HL.out];rfl,rfl⟩
 ·have hl:s.toList.isEmpty=false:=by
   rw [Lib.toList_data]
   cases h:s.data.toList with
   | nil=>exact absurd (show s.size=0 by rw [size_list,h];rfl) h0
   | cons a l=>rfl
  have HE:Hid (s.data.toList.isEmpty=false):=by have:=hl;rw [Lib.toList_data] at this;exact this
  clear h0
  go_enter Tryz.func194,Tryz.ntmps194
  go_wp2
  go_loop [6] (fun iv=>∃ k:Nat,k≤s.size∧iv = .int .i64 (k:Int)∧Hid ((s.data.toList.take k).all isDig=true)) (fun iv=>s.size - (intOf iv).toNat)
  case atStart=>exact ⟨0,Nat.zero_le _,rfl,rfl⟩
  case round =>
   obtain ⟨k,hk,rfl,hall⟩:=hrel
   by_cases hlt:k < s.size
   ·have HT:=hide (take_snoc hlt)
    by_cases hd:isDig s[k]=true
    ·obtain ⟨hd1,hd2⟩:=(dig_iff _).1 hd
     have HD:=hide hd
     clear hd
     go_wp2
     go_round
     case rel=>exact ⟨k + 1,by omega,by go_num,by unfold Hid;rw [HT.out,List.all_append,hall.out];simp [HD.out]⟩
     case measure=>simp [intOf];omega
    ·have hd':¬ (48≤(s[k].toNat:Int)∧(s[k].toNat:Int)≤57):=fun h=>hd ((dig_iff _).2 h)
     have HB:Hid (digB s.data.toList=false):=by
      unfold Hid digB
      have:s.data.toList.all isDig=false:=by
       rw [List.all_eq_false]
       exact ⟨s[k],List.getElem_mem (l:=s.data.toList) hlt,hd⟩
      rw [this];simp
     clear hd
     by_cases h48:48≤(s[k].toNat:Int)
     ·have h57:¬ (s[k].toNat:Int)≤57:=fun h=>hd' ⟨h48,h⟩
      clear hd'
      go_wp2
      go_ret
      exact ⟨bool_ret HB.out.symm,rfl⟩
     ·clear hd'
      go_wp2
      go_ret
      exact ⟨bool_ret HB.out.symm,rfl⟩
   ·obtain rfl:k=s.size:=by omega
    have HB:Hid (digB s.data.toList=true):=by
     unfold Hid digB
     have h:=hall.out
     rw [List.take_of_length_le (Nat.le_of_eq (size_list s).symm)] at h
     rw [h,HE.out];rfl
    go_wp2
    go_ret
    exact ⟨bool_ret HB.out.symm,rfl⟩
def dvs (l:List UInt8):List Nat:=l.reverse.map fun c=>c.toNat - 48
theorem fold_val (l:List UInt8):∀ a:Nat,l.foldl (fun a c=>a * 10 + (c.toNat - 48)) a=a * 10 ^ l.length + val 10 (dvs l):=by
 induction l with
 | nil=>intro a;simp [dvs,val]
 | cons c l ih =>
   intro a
   rw [List.foldl_cons,ih]
   unfold dvs
   rw [List.reverse_cons,List.map_append,val_append,List.length_cons,Nat.pow_succ]
   simp only [List.map_cons,List.map_nil,val,List.length_map,List.length_reverse,Nat.mul_zero,Nat.add_zero]
   rw [Nat.add_mul,Nat.mul_assoc,Nat.mul_comm 10,Nat.mul_comm (10 ^ l.length) (c.toNat - 48)]
   omega
theorem numL_val (l:List UInt8):numL l=val 10 (dvs l):=by unfold numL;rw [fold_val];simp
theorem dvs_len (l:List UInt8):(dvs l).length=l.length:=by simp [dvs]
theorem dvs_lt {l:List UInt8} (h:l.all isDig=true):∀ x ∈ dvs l,x < 10:=by
 intro x hx
 unfold dvs at hx
 obtain ⟨c,hc,rfl⟩:=List.mem_map.1 hx
 have:=(dig_iff c).1 (List.all_eq_true.1 h c (List.mem_reverse.1 hc))
 omega
theorem numL_lt (l:List UInt8) (h:l.all isDig=true):numL l < 10 ^ l.length:=by
 rw [numL_val,← dvs_len]
 exact val_lt _ (dvs_lt h)
theorem valueOf_any (s:ByteArray) (w:World) (hs:s.size≤9) (hd:s.data.toList.all isDig=true) :
 Calls Tryz.prog 196 #[.string s] w fun e w'=>e = .returned (.int .u32 (numL s.data.toList:Int))∧w=w':=by
 have HD:=hide hd
 clear hd
 go_enter Tryz.func196,Tryz.ntmps196
 go_wp2
 go_loop [3,7] (fun sv iv=>∃ k v:Nat,k≤s.size∧iv = .int .i64 (k:Int)∧sv = .int .u32 (v:Int)∧Hid (v=numL (s.data.toList.take k))) (fun _ iv=>s.size - (intOf iv).toNat)
 case atStart=>exact ⟨0,0,Nat.zero_le _,rfl,rfl,rfl⟩
 case round =>
  obtain ⟨k,v,hk,rfl,rfl,hv⟩:=hrel
  by_cases hlt:k < s.size
  ·have HT:=hide (take_snoc hlt)
   have hdk:isDig s[k]=true:=List.all_eq_true.1 HD.out _ (List.getElem_mem (l:=s.data.toList) hlt)
   obtain ⟨hd1,hd2⟩:=(dig_iff _).1 hdk
   have hvl:v < 100000000:=by
    have h1:=numL_lt (s.data.toList.take k) (by
     rw [List.all_eq_true];exact fun c hc=>List.all_eq_true.1 HD.out c (List.mem_of_mem_take hc))
    rw [← hv.out,List.length_take] at h1
    have h2:10 ^ min k s.data.toList.length≤10 ^ 8:=Nat.pow_le_pow_right (by omega) (by have:=size_list s;omega)
    omega
   clear hdk
   go_wp2
   go_round
   case rel=>exact ⟨k + 1,_,by omega,by go_num,congrArg (Value.int .u32) (show _=(((v * 10 + (s[k].toNat - 48):Nat)):Int) by omega),by unfold Hid;rw [HT.out,numL_snoc,← hv.out]⟩
   case measure=>simp [intOf];omega
  ·obtain rfl:k=s.size:=by omega
   have hvl:v < 1000000000:=by
    have h1:=numL_lt (s.data.toList.take s.size) (by
     rw [List.all_eq_true];exact fun c hc=>List.all_eq_true.1 HD.out c (List.mem_of_mem_take hc))
    rw [← hv.out,List.length_take] at h1
    have h2:10 ^ min s.size s.data.toList.length≤10 ^ 9:=Nat.pow_le_pow_right (by omega) (by omega)
    omega
   go_wp2
   go_ret
   exact ⟨by rw [hv.out,List.take_of_length_le (Nat.le_of_eq (size_list s).symm)];rfl,rfl⟩
def ParsePost (w:World) (l:List UInt8) (e:Ending) (w':World):Prop :=
 if digB l=true then ∃ A c,e = .returned (.tuple #[.agg #[.slice A (dl (numL l)) c],.bool true])∧Can w' w'.heap.size A c (numL l)∧Below w.heap.size w w'
 else e = .returned (.tuple #[.agg #[.slice none 0 0],.bool false])∧Below w.heap.size w w'
theorem numL_drop (l:List UInt8):numL (l.dropWhile (· == 48))=numL l:=by
 induction l with
 | nil=>rfl
 | cons c l ih =>
   by_cases h:c=48
   ·subst h
    rw [show (48 :: l).dropWhile (· == (48:UInt8))=l.dropWhile (· == 48) from rfl,ih]
    rfl
   ·rw [List.dropWhile_cons,if_neg (by simpa using h)]
theorem all_drop {l:List UInt8} (h:l.all isDig=true):(l.dropWhile (· == 48)).all isDig=true:=by
 rw [List.all_eq_true] at *
 exact fun c hc=>h c ((List.dropWhile_sublist _).subset hc)
theorem len_drop (l:List UInt8):(l.dropWhile (· == 48)).length≤l.length:=(List.dropWhile_sublist _).length_le
theorem numL_append (l m:List UInt8):numL (l ++ m)=numL l * 10 ^ m.length + numL m:=by
 rw [show numL (l ++ m)=m.foldl (fun a c=>a * 10 + (c.toNat - 48)) (numL l) by unfold numL;rw [List.foldl_append],fold_val,← numL_val]
theorem dl_le {m k:Nat} (h:m < W32 ^ k):dl m≤k:=by
 rcases Nat.eq_zero_or_pos m with rfl | h0
 ·unfold dl;rw [digs_zero];simp
 ·have h1:=pow_le_of_digs (b:=W32) (by decide) h0
  have h2:W32 ^ (dl m - 1) < W32 ^ k:=Nat.lt_of_le_of_lt h1 h
  have h3:=(Nat.pow_lt_pow_iff_right (a:=W32) (by decide)).1 h2
  omega
theorem Parse_any (s:ByteArray) (w:World) (hs:s.size≤100000) :
 Calls Tryz.prog 142 #[.string s] w (ParsePost w s.data.toList):=by
 have HSM:Hid (s.size≤maxLen):=by simp only [maxLen,Hid];omega
 by_cases hd:digB s.data.toList=true
 ·have HD:=hide hd
  obtain ⟨l,hl⟩:∃ l,l=s.data.toList:=⟨_,rfl⟩
  have hall:l.all isDig=true:=by rw [hl];unfold digB at hd;simp only [Bool.and_eq_true] at hd;exact hd.2
  have HL:=hide hl
  have HA:=hide hall
  have hlen:l.length≤100000:=by rw [hl];exact hs
  obtain ⟨i0,hi0,hz0,hz1,hz2⟩:=info_parts Tryz.infoU32
  have I0:=hide hi0
  have Z0:=hide hz0
  have Z1:=hide hz1
  have Z2:=hide hz2
  clear hi0 hz0 hz1 hz2 hd hl hall hs
  go_enter Tryz.func142,Tryz.ntmps142
  go_wp2_with (first | (go_at_call 194;go_must (refine (isDigits_any s _ HSM.out).mono ?_);rintro e w' ⟨rfl,rfl⟩;have hdt:=HD.out) | (go_at_call 78;go_must (refine (TrimLeft_any s _).mono ?_);rintro e w' ⟨t,rfl,ht,rfl⟩;have HT:=hide ht;have htl:t.size≤100000:=(by rw [size_list,ht];exact Nat.le_trans (len_drop _) (by rw [← HL.out];exact hlen));clear ht hdt) | (at_make;go_must (refine wpList_make_own _ rfl _ _ 40 rfl (w.heap.size + 1) 142 i0 (.int .u32 0) 1 Tryz.underlying40 I0.out Z0.out Z1.out .i64 .i64 _ (t.size / 9 + 1) rfl rfl (by omega) (by rw [Z2.out];omega) (by simp only [maxLen];omega) (by simp) ?_;intro w1 hown hgr1)))
  have HBEL:Hid (Below w.heap.size w w1):=((Below.refl _ _).alloc (Nat.le_refl _) _).grown hgr1 (by simp) (by intro k hk;cases hk)
  have HRES:Hid (w1.heap[w.heap.size]? = some (.cells #[.slice none 0 0] 42 (0,0))):=(hgr1.block _ (by simp) (by simp)).trans (heap_alloc_new w _)
  have HOWN:Hid (OwnG w1 (w.heap.size + 1) (w.heap.size + 1) (t.size / 9 + 1) []):=by simpa [Hid,OwnG,OwnF] using hown
  have HALL:Hid (t.data.toList.all isDig=true):=by unfold Hid;rw [HT.out,← HL.out];exact all_drop HA.out
  have HNT:Hid (numL t.data.toList=numL l):=by unfold Hid;rw [HT.out,← HL.out,numL_drop]
  clear hown hgr1
  go_loopw [4,5] (fun sv wv wr=>∃ (u:ByteArray) (m g' cap':Nat),sv = .string u∧wv = .slice (some ⟨g',0,none⟩) (dl m) cap'∧u.size≤t.size∧dl m≤100000∧Hid (m=0 ∨ u.size % 9=0)∧Hid (OwnG wr (w.heap.size + 1) g' cap' (digs W32 m))∧Hid (Below (w.heap.size + 1) w1 wr) ∧
   Hid (u.data.toList.all isDig=true)∧Hid (m * 10 ^ u.size + numL u.data.toList=numL l))
   (fun sv _ _=>match sv with | .string u=>u.size | _=>0)
  case atStart=>exact ⟨t,0,w.heap.size + 1,t.size / 9 + 1,rfl,by first | rfl | (unfold dl;rw [digs_zero];rfl),Nat.le_refl _,by unfold dl;rw [digs_zero];simp,.inl rfl,by rw [digs_zero];exact HOWN,Below.refl _ _,HALL,by unfold Hid;rw [HNT.out];simp⟩
  case round =>
   obtain ⟨u,m,g',cap',rfl,rfl,hut,hdl,h9,hown,hbel,hall,hnum⟩:=hrel
   by_cases h0:u.size=0
   ·have h1:¬ 0 < u.size:=by omega
    have HZ:=hide h0
    obtain ⟨hr3,hr4⟩:=one_cell ((hbel.out.block _ (by omega)).trans HRES.out)
    clear h0
    go_wp2
    refine bodyPost_ret (v:=.tuple #[.agg #[.slice (some ⟨g',0,none⟩) (dl m) cap'],.bool true]) (by simp [results,Tryz.results142,go_sem,hr3]) rfl ?_
    have hm:m=numL l:=by
     have h2:=hnum.out
     rw [HZ.out,List.eq_nil_of_length_eq_zero (show u.data.toList.length=0 from HZ.out)] at h2
     simpa [numL] using h2
    unfold ParsePost
    rw [← HL.out,if_pos (by rw [HL.out];exact HD.out),← hm]
    refine ⟨_,_,rfl,?_,(HBEL.out.trans (hbel.out.mono (by omega))).setCell (by simp) _⟩
    exact hown.out.can (by have:=hown.out.ge.1;simp;omega) _
   ·have h1:0 < u.size:=by omega
    clear h0
    obtain ⟨k,hk⟩:∃ k,k=(u.size - 1) % 9 + 1:=⟨_,rfl⟩
    obtain ⟨v,hv⟩:∃ v,v=numL (u.data.toList.take k):=⟨_,rfl⟩
    have hk9:k≤9∧k≤u.size:=by omega
    have htake:(u.data.toList.take k).all isDig=true:=by
     rw [List.all_eq_true];exact fun c hc=>List.all_eq_true.1 hall.out c (List.mem_of_mem_take hc)
    have hv9:v≤999999999:=by
     have h2:=numL_lt _ htake
     rw [← hv,List.length_take] at h2
     have h3:10 ^ min k u.data.toList.length≤10 ^ 9:=Nat.pow_le_pow_right (by omega) (by omega)
     omega
    have CV:Hid (Calls Tryz.prog 196 #[.string (u.extract 0 ((u.size - 1) % 9 + 1))] wr fun e w'=>e = .returned (.int .u32 (v:Int))∧wr=w'):=by
     have he:(u.extract 0 ((u.size - 1) % 9 + 1)).data.toList=u.data.toList.take k:=by rw [Lib.extract_data,List.drop_zero,Nat.sub_zero,hk]
     have h2:=valueOf_any (u.extract 0 ((u.size - 1) % 9 + 1)) wr (by rw [size_list,he,List.length_take];omega) (by rw [he];exact htake)
     rw [he,← hv] at h2
     exact h2
    have HNEW:Hid ((m * 1000000000 + v) * 10 ^ (u.size - k) + numL (u.data.toList.drop k)=numL l):=by
     have h2:=numL_append (u.data.toList.take k) (u.data.toList.drop k)
     rw [List.take_append_drop,List.length_drop,← hv] at h2
     have h3:=hnum.out
     rw [h2,size_list] at h3
     unfold Hid
     rw [Nat.add_mul,size_list,← h3]
     rcases h9.out with rfl | h9
     ·simp
     ·have hk2:k=9:=by omega
      have h4:10 ^ u.data.toList.length=1000000000 * 10 ^ (u.data.toList.length - k):=by
       rw [show (1000000000:Nat)=10 ^ 9 from rfl,← Nat.pow_add];congr 1;rw [← size_list];omega
      rw [h4,Nat.mul_assoc];omega
    have HDL:Hid (dl (m * 1000000000 + v)≤100000):=by
     have h2:m * 1000000000 + v≤numL l:=by
      rw [← HNEW.out]
      exact Nat.le_trans (Nat.le_mul_of_pos_right _ (Nat.pow_pos (by omega))) (Nat.le_add_right _ _)
     have h3:=numL_lt l HA.out
     have h4:10 ^ l.length≤W32 ^ l.length:=Nat.pow_le_pow_left (by decide) _
     exact Nat.le_trans (dl_le (Nat.lt_of_le_of_lt h2 (Nat.lt_of_lt_of_le h3 h4))) hlen
    have HK:Hid (k=(u.size - 1) % 9 + 1):=hk
    have hsz:u.size - k < u.size:=by omega
    have hmod:(u.size - k) % 9=0:=by omega
    have HMOD:=hide hmod
    have HEX:Hid ((u.extract ((u.size - 1) % 9 + 1) u.size).data.toList=u.data.toList.drop k):=by
     unfold Hid
     rw [Lib.extract_data,← hk,List.take_of_length_le]
     rw [List.length_drop];exact Nat.le_refl _
    have HALD:Hid ((u.data.toList.drop k).all isDig=true):=by
     unfold Hid
     rw [List.all_eq_true];exact fun c hc=>List.all_eq_true.1 hall.out c (List.mem_of_mem_drop hc)
    clear hk hv htake hmod
    go_wp2_with (first | (go_at_call 196;go_must (refine CV.out.mono ?_);rintro e w' ⟨rfl,rfl⟩) | (go_at_call 195;go_must (refine (appendGroup_any hown.out hv9 (by omega)).mono ?_);rintro e w2 ⟨g2,cap2,rfl,hown2,hbel2⟩))
    go_roundw
    case rel =>
     refine ⟨_,m * 1000000000 + v,g2,cap2,rfl,rfl,?_,HDL.out,.inr ?_,hown2,hbel.out.trans hbel2.out,?_,?_⟩
     ·rw [size_list,HEX.out,List.length_drop];have:=size_list u;omega
     ·rw [size_list,HEX.out,List.length_drop];exact HMOD.out
     ·unfold Hid;rw [HEX.out];exact HALD.out
     ·unfold Hid;rw [HEX.out,size_list,HEX.out,List.length_drop];exact HNEW.out
    case measure=>simp;omega
 ·have HD:=hide hd
  have hdf:digB s.data.toList=false:=by simpa using hd
  clear hd hs
  go_enter Tryz.func142,Tryz.ntmps142
  go_wp2_with (first | (go_at_call 194;go_must (refine (isDigits_any s _ HSM.out).mono ?_);rintro e w' ⟨rfl,rfl⟩))
  refine bodyPost_ret (v:=.tuple #[.agg #[.slice none 0 0],.bool false]) (by simp [results,Tryz.results142,go_sem]) rfl ?_
  unfold ParsePost
  rw [if_neg HD.out]
  refine ⟨rfl,?_⟩
  exact (Below.refl _ _).alloc (Nat.le_refl _) _
def RevPost (w:World) (base g cap:Nat) (xs:List Nat) (e:Ending) (w':World):Prop:=e = .returned (.tuple #[])∧OwnF U8 5 w' base g cap xs.reverse∧w.grownBy w' (some g)
theorem Reverse_any {base g cap n:Nat} {xs:List Nat} {w:World} (hn:n=xs.length) (h:OwnF U8 5 w base g cap xs) (hl:n≤10000000) :
 Calls Tryz.prog 77 #[.slice (some ⟨g,0,none⟩) n cap] w (RevPost w base g cap xs):=by
 have HN:=hide hn
 have H:=hide h
 clear hn h
 go_enter Tryz.func77,Tryz.ntmps77
 go_wp2
 go_loopw [2,3] (fun iv jv wr=>∃ k j:Nat,∃ cur:List Nat,k≤j∧j + k≤n∧n≤j + k∧iv = .int .i64 (k:Int)∧jv = .int .i64 ((j:Int) - 1)∧Hid (cur.length=n) ∧
  Hid (∀ x,x < n→cur[x]? = if x < k ∨ j≤x then xs[n - 1 - x]? else xs[x]?)∧Hid (OwnF U8 5 wr base g cap cur)∧Hid (w.grownBy wr (some g)))
  (fun _ jv _=>(intOf jv + 1).toNat)
 case atStart=>exact ⟨0,n,xs,Nat.zero_le _,by omega,by omega,rfl,rfl,HN.out.symm,fun x hx=>by rw [if_neg (by omega)],H,World.grownBy.refl _ _⟩
 case round =>
  obtain ⟨k,j,cur,hkj,hjk,hjk',rfl,rfl,hcl,hcur,hown,hgr⟩:=hrel
  by_cases hlt:k + 1 < j
  ·obtain ⟨i,rfl⟩:∃ i,j=i + 1:=⟨j - 1,by omega⟩
   have hkc:k < cur.length:=by rw [hcl.out];omega
   have hic:i < cur.length:=by rw [hcl.out];omega
   obtain ⟨a,ha⟩:∃ a,a=cur[k]:=⟨_,rfl⟩
   obtain ⟨b,hb⟩:∃ b,b=cur[i]:=⟨_,rfl⟩
   have hca:wr.cell? ⟨g,k,none⟩=some (.int .u8 (a:Int)):=hown.out.cell (by rw [ha];exact List.getElem?_eq_getElem hkc)
   have hcb:wr.cell? ⟨g,i,none⟩=some (.int .u8 (b:Int)):=hown.out.cell (by rw [hb];exact List.getElem?_eq_getElem hic)
   have hfa:=hown.out.frozen k
   have hfb:=hown.out.frozen i
   have hown1:OwnF U8 5 (wr.setCell ⟨g,k,none⟩ (.int .u8 (b:Int))) base g cap (cur.set k b):=hown.out.set_ k b
   have hown2:OwnF U8 5 (((wr.setCell ⟨g,k,none⟩ (.int .u8 (b:Int))).setCell ⟨g,i,none⟩ (.int .u8 (a:Int))).drew) base g cap ((cur.set k b).set i a):=hown1.set_ i a
   have hgr2:w.grownBy (((wr.setCell ⟨g,k,none⟩ (.int .u8 (b:Int))).setCell ⟨g,i,none⟩ (.int .u8 (a:Int))).drew) (some g):=grown_drewN (grown_set (grown_set hgr.out _ _) _ _) 1
   have hnew:∀ x,x < n→((cur.set k b).set i a)[x]? = if x < k + 1 ∨ i≤x then xs[n - 1 - x]? else xs[x]?:=by
    intro x hx
    have hkx:=hcur.out k (by omega)
    have hix:=hcur.out i (by omega)
    rw [if_neg (by omega),List.getElem?_eq_getElem hkc,← ha] at hkx
    rw [if_neg (by omega),List.getElem?_eq_getElem hic,← hb] at hix
    by_cases hxi:x=i
    ·subst hxi
     rw [List.getElem?_set_self (by rw [List.length_set];exact hic),if_pos (by omega),hkx];congr 1;omega
    ·rw [List.getElem?_set_ne (by omega)]
     by_cases hxk:x=k
     ·subst hxk
      rw [List.getElem?_set_self hkc,if_pos (by omega),hix];congr 1;omega
     ·rw [List.getElem?_set_ne (by omega),hcur.out x hx]
      by_cases h3:x < k ∨ i + 1≤x
      ·rw [if_pos h3,if_pos (by omega)]
      ·rw [if_neg h3,if_neg (by omega)]
   have HNEW:=hide hnew
   have HO2:=hide hown2
   have HG2:=hide hgr2
   clear ha hb hkc hic hown1 hown2 hgr2 hnew
   go_wp2_with fail
   go_region
   go_wp2
   go_roundw
   case rel=>exact ⟨k + 1,i,(cur.set k b).set i a,by omega,by omega,by omega,by go_num,by first | rfl | (congr 1;omega),by unfold Hid;rw [List.length_set,List.length_set];exact hcl.out,HNEW.out,HO2,HG2⟩
   case measure=>simp [intOf]
  ·have HE:Hid (cur=xs.reverse):=by
    unfold Hid
    apply List.ext_getElem?
    intro x
    rcases Nat.lt_or_ge x n with hx | hx
    ·rw [hcur.out x hx,List.getElem?_reverse (by rw [← HN.out];exact hx),← HN.out]
     split
     ·rfl
     ·congr 1;omega
    ·rw [List.getElem?_eq_none (by rw [hcl.out];exact hx),List.getElem?_eq_none (by rw [List.length_reverse,← HN.out];exact hx)]
   go_wp2
   go_end0
   exact ⟨rfl,by rw [← HE.out];exact hown.out,hgr.out⟩
end Go.Proofs.YtfflmmbhpchloaaGreatDoor
end
