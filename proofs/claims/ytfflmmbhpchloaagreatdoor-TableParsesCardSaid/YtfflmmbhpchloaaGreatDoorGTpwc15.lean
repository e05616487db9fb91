/- Each theorem here says its own conditions. -/
import Derived.Test.YtfflmmbhpchloaaGreatDoorGTpwc14
set_option maxRecDepth 100000
set_option maxHeartbeats 16000000
section
open Go.RowKit
namespace Go.Proofs.YtfflmmbhpchloaaGreatDoor
def box (A:Option Addr) (n c:Nat):Obj:=.cells #[.slice A n c] 42 (0,0)
theorem Can.setBox {w:World} {A:Option Addr} {c m:Nat} (h:Can w w.heap.size A c m) {p:Addr} {a:Option Addr} {l k:Nat} (hc:w.cell? p=some (.slice a l k)) (u:Value):Can (w.setCell p u) (w.setCell p u).heap.size A c m:=by
 refine ⟨h.1,?_⟩
 have:=h.2.setBox hc u
 simpa [World.setCell] using this
theorem Arg.setBox {w:World} {A:Option Addr} {n c m:Nat} (h:Arg w w.heap.size A n c m) {p:Addr} {a:Option Addr} {l k:Nat} (hc:w.cell? p=some (.slice a l k)) (u:Value):Arg (w.setCell p u) (w.setCell p u).heap.size A n c m:=by
 obtain ⟨ws,h1,h2,h3,h4,h5⟩:=h
 refine ⟨ws,h1,h2,h3,?_,h5⟩
 have:=h4.setBox hc u
 simpa [World.setCell] using this
def PowInv (w wr:World) (p i j m:Nat) (A1:Option Addr) (c1:Nat) (A2:Option Addr) (n2 c2:Nat):Prop :=
 wr.heap[p]? = some (box A1 (dl (m ^ i)) c1)∧wr.heap[p + 1]? = some (box A2 n2 c2)∧wr.heap[w.heap.size + 1]? = some (box none 0 0)∧Can wr wr.heap.size A1 c1 (m ^ i)∧Arg wr wr.heap.size A2 n2 c2 (m ^ j)∧Below w.heap.size w wr∧w.heap.size + 2≤p
theorem lt_of_heap {w:World} {g:Nat} {o:Obj} (h:w.heap[g]? = some o):g < w.heap.size:=by
 rcases Nat.lt_or_ge g w.heap.size with hlt | hge
 ·exact hlt
 ·rw [Array.getElem?_eq_none hge] at h;cases h
section
variable {w wr w2:World} {p i j m c1 n2 c2:Nat} {A1 A2:Option Addr}
theorem PowInv.below (h:PowInv w wr p i j m A1 c1 A2 n2 c2) (hb:Below wr.heap.size wr w2):PowInv w w2 p i j m A1 c1 A2 n2 c2:=by
 obtain ⟨h1,h2,h3,h4,h5,h6,h7⟩:=h
 exact ⟨(hb.block _ (lt_of_heap h1)).trans h1,(hb.block _ (lt_of_heap h2)).trans h2,(hb.block _ (lt_of_heap h3)).trans h3,(h4.below hb).more hb.size,(h5.below hb).more hb.size,h6.trans (hb.mono h6.size),h7⟩
theorem set_heap {w:World} {g:Nat} {A:Option Addr} {n c:Nat} (h:w.heap[g]? = some (box A n c)) (B:Option Addr) (k d:Nat):(w.setCell ⟨g,0,none⟩ (.slice B k d)).heap[g]? = some (box B k d):=by
 unfold box at h ⊢
 rw [heap_setCell_same w g 0 _ _ _ h];rfl
theorem PowInv.setP (h:PowInv w wr p i j m A1 c1 A2 n2 c2) {i':Nat} {B:Option Addr} {d:Nat} (hc:Can wr wr.heap.size B d (m ^ i')):PowInv w (wr.setCell ⟨p,0,none⟩ (.slice B (dl (m ^ i')) d)) p i' j m B d A2 n2 c2:=by
 obtain ⟨h1,h2,h3,h4,h5,h6,h7⟩:=h
 have e:=(one_cell h1).1
 exact ⟨set_heap h1 _ _ _,(Below.heap_setCell _ _ _ _ (by simp)).trans h2,(Below.heap_setCell _ _ _ _ (by simp;omega)).trans h3,hc.setBox e _,h5.setBox e _,h6.setCell (by simp;omega) _,h7⟩
theorem PowInv.setS (h:PowInv w wr p i j m A1 c1 A2 n2 c2) {j':Nat} {B:Option Addr} {d:Nat} (hc:Can wr wr.heap.size B d (m ^ j')) (hl:dl (m ^ j')≤100000):PowInv w (wr.setCell ⟨p + 1,0,none⟩ (.slice B (dl (m ^ j')) d)) p i j' m A1 c1 B (dl (m ^ j')) d:=by
 obtain ⟨h1,h2,h3,h4,h5,h6,h7⟩:=h
 have e:=(one_cell h2).1
 exact ⟨(Below.heap_setCell _ _ _ _ (by simp)).trans h1,set_heap h2 _ _ _,(Below.heap_setCell _ _ _ _ (by simp;omega)).trans h3,h4.setBox e _,(hc.arg hl).setBox e _,h6.setCell (by simp;omega) _,h7⟩
end
theorem start2' (wa:World) (v0 v1:Value) (t:TypeId) :
 ((wa.alloc (.cells #[v0] t)).alloc (.cells #[v1] t)).cell? ⟨wa.heap.size,0,none⟩=some v0∧((wa.alloc (.cells #[v0] t)).alloc (.cells #[v1] t)).heap[wa.heap.size + 1]? = some (.cells #[v1] t (0,0)) ∧
 Below wa.heap.size wa ((wa.alloc (.cells #[v0] t)).alloc (.cells #[v1] t))∧wa.heap.size + 2≤((wa.alloc (.cells #[v0] t)).alloc (.cells #[v1] t)).heap.size:=by
 have b1:(wa.alloc (.cells #[v0] t)).heap[wa.heap.size]? = some (.cells #[v0] t (0,0)):=heap_alloc_new wa _
 have b2:((wa.alloc (.cells #[v0] t)).alloc (.cells #[v1] t)).heap[wa.heap.size + 1]? = some (.cells #[v1] t (0,0)):=by simpa using heap_alloc_new (wa.alloc (.cells #[v0] t)) (.cells #[v1] t)
 have c1:((wa.alloc (.cells #[v0] t)).alloc (.cells #[v1] t)).heap[wa.heap.size]? = some (.cells #[v0] t (0,0)):=(Below.heap_alloc _ _ _ (by simp)).trans b1
 exact ⟨(one_cell c1).1,b2,((Below.refl _ _).alloc (Nat.le_refl _) _).alloc (by simp) _,by simp⟩
theorem pow_start {w w1:World} {A:Option Addr} {n c:Nat} (hb:Hid (Below ((w.alloc (.cells #[.slice A n c] 42)).alloc (.cells #[.slice none 0 0] 42)).heap.size ((w.alloc (.cells #[.slice A n c] 42)).alloc (.cells #[.slice none 0 0] 42)) w1)) :
 Hid (w1.heap[w.heap.size + 1]? = some (box none 0 0)∧Below w.heap.size w w1∧w.heap.size + 2≤w1.heap.size) ∧ ∀ o,(w1.alloc o).cell? ⟨w.heap.size,0,none⟩=some (.slice A n c):=by
 obtain ⟨s1,s2,s3,s4⟩:=start2' w (.slice A n c) (.slice none 0 0) 42
 have hs:=hb.out.size
 exact ⟨⟨(hb.out.block _ (by omega)).trans s2,s3.trans (hb.out.mono s3.size),by omega⟩,fun o=>(World.cell?_alloc_lt w1 o _ (show w.heap.size < w1.heap.size by omega)).trans ((hb.out.cell (show w.heap.size < _ by omega)).trans s1)⟩
def NumH (W:World) (v:Nat) (e:Ending) (w':World):Prop:=∃ A c,e = .returned (.agg #[.slice A (dl v) c])∧Hid (Can w' w'.heap.size A c v)∧Hid (Below W.heap.size W w')
theorem mul_inv1 {w W:World} {p i j m c1 n2 c2:Nat} {A1 A2:Option Addr} (P:PowInv w W p i j m A1 c1 A2 n2 c2) (hl:dl (m ^ i)≤100000):Calls Tryz.prog 133 #[.agg #[.slice A1 (dl (m ^ i)) c1],.agg #[.slice A2 n2 c2]] W (NumH W (m ^ (i + j))):=by
 rw [Nat.pow_add]
 exact (Mul_any (P.2.2.2.1.arg hl) P.2.2.2.2.1).mono fun _ _ h=>h
theorem mul_inv2 {w W:World} {p i j m c1 n2 c2:Nat} {A1 A2:Option Addr} (P:PowInv w W p i j m A1 c1 A2 n2 c2):Calls Tryz.prog 133 #[.agg #[.slice A2 n2 c2],.agg #[.slice A2 n2 c2]] W (NumH W (m ^ (j + j))):=by
 rw [Nat.pow_add]
 exact (Mul_any P.2.2.2.2.1 P.2.2.2.2.1).mono fun _ _ h=>h
theorem pow_odd {i j kk k:Nat} (h:i + j * kk=k) (ho:kk % 2=1):(i + j) + (j + j) * (kk / 2)=k:=by
 obtain ⟨t,ht⟩:∃ t,kk=2 * t + 1:=⟨kk / 2,by omega⟩
 subst ht
 rw [show (2 * t + 1) / 2=t by omega,Nat.add_mul]
 rw [Nat.mul_add,Nat.mul_one,Nat.mul_left_comm] at h
 omega
theorem pow_even {i j kk k:Nat} (h:i + j * kk=k) (ho:kk % 2=0):i + (j + j) * (kk / 2)=k:=by
 obtain ⟨t,ht⟩:∃ t,kk=2 * t:=⟨kk / 2,by omega⟩
 subst ht
 rw [show (2 * t) / 2=t by omega,Nat.add_mul]
 rw [Nat.mul_left_comm] at h
 omega
theorem two_le {i j kk k:Nat} (h:i + j * kk=k) (ht:2≤kk):j + j≤k:=by
 have h2:j * 2≤j * kk:=Nat.mul_le_mul_left _ ht
 omega
theorem Pow_any {A:Option Addr} {n c m k:Nat} {w:World} (h:Arg w w.heap.size A n c m) (hk:k≤1000000) (hb:∀ i,i≤k→dl (m ^ i)≤100000) :
 Calls Tryz.prog 212 #[.agg #[.slice A n c],.int .i64 (k:Int)] w (NumH w (m ^ k)):=by
 have H:=hide (fun W (hbb:Below w.heap.size w W)=>(h.below hbb).more hbb.size)
 have HB:=hide hb
 have CO:Hid (∀ W,Calls Tryz.prog 66 #[.int .u64 1] W (NumH W 1)):=fun W=>(Of_any (n:=1) (w:=W) (by decide)).mono fun _ _ h=>h
 clear h hb
 go_enter Tryz.func212,Tryz.ntmps212
 go_wp2_with (first | (go_at_call 66;go_must (refine (CO.out _).mono ?_);rintro e w1 ⟨A1,c1,rfl,hc1,hbk⟩;obtain ⟨HBX,e2⟩:=pow_start (A:=A) (n:=n) (c:=c) hbk))
 obtain ⟨hr0,hw1,hw2⟩:=HBX.out
 have HP0:Hid (PowInv w ((w1.alloc (.cells #[.slice A1 (dl 1) c1] 42)).alloc (.cells #[.slice A n c] 42)) w1.heap.size 0 1 m A1 c1 A n c):=by
  obtain ⟨_,s2,s3,s4⟩:=start2' w1 (.slice A1 (dl 1) c1) (.slice A n c) 42
  have s1:((w1.alloc (.cells #[.slice A1 (dl 1) c1] 42)).alloc (.cells #[.slice A n c] 42)).heap[w1.heap.size]? = some (.cells #[.slice A1 (dl 1) c1] 42 (0,0)):=(Below.heap_alloc _ _ _ (by simp)).trans (heap_alloc_new w1 _)
  exact ⟨by rw [Nat.pow_zero];exact s1,s2,(s3.block _ (by omega)).trans hr0,by rw [Nat.pow_zero];exact (hc1.out.below s3).more s3.size,by rw [Nat.pow_one];exact H.out _ (hw1.trans (s3.mono hw1.size)),hw1.trans (s3.mono hw1.size),hw2⟩
 clear hr0 hw1 hw2 HBX e2 hc1 hbk
 go_loopw [1] (fun kv wr=>∃ (kk i j:Nat) (B1:Option Addr) (d1:Nat) (B2:Option Addr) (n2 d2:Nat),kv = .int .i64 (kk:Int)∧kk≤k∧Hid (i + j * kk=k)∧Hid (PowInv w wr w1.heap.size i j m B1 d1 B2 n2 d2))
  (fun kv _=>(intOf kv).toNat)
 case atStart=>exact ⟨k,0,1,_,_,_,_,_,rfl,Nat.le_refl _,by simp [Hid],HP0⟩
 case round =>
  obtain ⟨kk,i,j,B1,d1,B2,n2,d2,rfl,hkk,hexp,P⟩:=hrel
  have r1:=(one_cell P.out.1).1
  have f1:=(one_cell P.out.1).2
  have r2:=(one_cell P.out.2.1).1
  have f2:=(one_cell P.out.2.1).2
  have r3:=(one_cell P.out.2.2.1).1
  have f3:=(one_cell P.out.2.2.1).2
  by_cases h0:kk=0
  ·subst h0
   have HI:Hid (i=k):=by have:=hexp.out;rw [Nat.mul_zero] at this;exact this
   go_wp2
   refine bodyPost_ret (v:=.agg #[.slice B1 (dl (m ^ i)) d1]) (by simp [results,Tryz.results212,go_sem,r3]) rfl ?_
   rw [← HI.out]
   exact ⟨B1,d1,rfl,P.out.2.2.2.1.setBox r3 _,P.out.2.2.2.2.2.1.setCell (by simp) _⟩
  ·have hk1:0 < kk:=by omega
   have HIK:Hid (i + j≤k∧j≤k∧i≤k):=by
    have h1:=hexp.out
    have h2:j * 1≤j * kk:=Nat.mul_le_mul_left _ hk1
    unfold Hid;omega
   clear h0
   by_cases hodd:kk % 2=1
   ·have HO:=hide (pow_odd hexp.out hodd)
    have hod:(((kk:Int) % 2) == 1)=true:=by rw [beq_iff_eq];omega
    by_cases ht:kk / 2=0
    ·have HT:=hide ht
     have hti:¬ (0:Int) < (kk:Int) / 2:=by omega
     clear hodd ht
     go_wp2_with (first | (go_at_call 133;go_must (refine (mul_inv1 P.out (HB.out _ HIK.out.2.2)).mono ?_);rintro e w2 ⟨B3,d3,rfl,hc3,hbk⟩;have P2:=hide (P.out.below hbk.out);have r1:=(one_cell P2.out.1).1;have f1:=(one_cell P2.out.1).2))
     go_roundw
     case rel=>exact ⟨kk / 2,i + j,j,B3,d3,B2,n2,d2,rfl,by omega,by have:=HO.out;rw [HT.out,Nat.mul_zero] at this;unfold Hid;rw [HT.out,Nat.mul_zero];exact this,P2.out.setP hc3.out⟩
     case measure=>simp [intOf];omega
    ·have hti:(0:Int) < (kk:Int) / 2:=by omega
     have HJJ:=hide (two_le hexp.out (show 2≤kk by omega))
     clear hodd ht
     go_wp2_with (first | (go_at_call 133;((with_reducible refine (mul_inv1 P.out (HB.out _ HIK.out.2.2)).mono ?_));rintro e w2 ⟨B3,d3,rfl,hc3,hbk⟩;have P2:=hide (P.out.below hbk.out);have r1:=(one_cell P2.out.1).1;have f1:=(one_cell P2.out.1).2;have P3:=hide (P2.out.setP hc3.out);have r2:=(one_cell P3.out.2.1).1) | (go_at_call 133;(refine (mul_inv2 P3.out).mono ?_);rintro e w4 ⟨B4,d4,rfl,hc4,hbk⟩;have P4:=hide (P3.out.below hbk.out);have r2:=(one_cell P4.out.2.1).1;have f2:=(one_cell P4.out.2.1).2))
     go_roundw
     case rel=>exact ⟨kk / 2,i + j,j + j,B3,d3,B4,_,d4,rfl,by omega,HO,P4.out.setS hc4.out (HB.out _ HJJ.out)⟩
     case measure=>simp [intOf];omega
   ·have HE:=hide (pow_even hexp.out (by omega))
    have hod:(((kk:Int) % 2) == 1)=false:=by rw [beq_eq_false_iff_ne];omega
    have hti:(0:Int) < (kk:Int) / 2:=by omega
    have HJJ:=hide (two_le hexp.out (show 2≤kk by omega))
    clear hodd
    go_wp2_with (first | (go_at_call 133;(refine (mul_inv2 P.out).mono ?_);rintro e w4 ⟨B4,d4,rfl,hc4,hbk⟩;have P4:=hide (P.out.below hbk.out);have r2:=(one_cell P4.out.2.1).1;have f2:=(one_cell P4.out.2.1).2))
    go_roundw
    case rel=>exact ⟨kk / 2,i,j + j,B1,d1,B4,_,d4,rfl,by omega,HE,P4.out.setS hc4.out (HB.out _ HJJ.out)⟩
    case measure=>simp [intOf];omega

section
variable {W:World} {A:Option Addr} {n c m:Nat}
def ParYes (W:World) (v:Nat) (e:Ending) (w':World):Prop:=∃ A c,e = .returned (.tuple #[.agg #[.slice A (dl v) c],.bool true])∧Nm w' A (dl v) c v∧Hid (Below W.heap.size W w')
theorem parse_yes {s:ByteArray} {v:Nat} (hs:s.size≤100000) (hd:digB s.data.toList=true) (hv:numL s.data.toList=v) (hl:dl v≤100000):Calls Tryz.prog 142 #[.string s] W (ParYes W v):=by
 subst hv
 refine (Parse_any s W hs).mono fun e w' h1=>?_
 unfold ParsePost at h1
 rw [if_pos hd] at h1
 obtain ⟨A2,c2,he,hc,hb⟩:=h1
 exact ⟨A2,c2,he,nm_can hc hl,hb⟩
def TextR (W:World) (s:ByteArray) (e:Ending) (w':World):Prop:=e = .returned (.string s)∧Hid (Below W.heap.size W w')
theorem text_r {s:ByteArray} (h:Nm W A n c m) (hs:s.data.toList=decL m):Calls Tryz.prog 43 #[.agg #[.slice A n c]] W (TextR W s):=by
 refine (Text_any h.out).mono fun e w' ⟨t,he,ht,hb⟩=>⟨?_,hb⟩
 rw [he,show t=s from ByteArray.ext (Array.ext' (ht.trans hs.symm))]
theorem pow_h {k:Nat} {v:Nat} (h:Nm W A n c m) (hk:k≤1000000) (hb:∀ i,i≤k→dl (m ^ i)≤100000) (hv:m ^ k=v):Calls Tryz.prog 212 #[.agg #[.slice A n c],.int .i64 (k:Int)] W (NumR W v):=by
 subst hv
 exact (Pow_any h.out hk hb).mono fun _ _ ⟨A2,c2,he,hc,hbk⟩=>⟨A2,c2,he,nm_can hc.out (hb k (Nat.le_refl _)),hbk⟩
end
theorem not_w32 {A:Option Addr} {n c:Nat}:∀ x:Nat,Value.slice A n c ≠ U32 x:=fun x h=>by cases h
theorem dig_same (c:UInt8):wdig c=isDig c:=by
 unfold wdig isDig
 rw [Bool.eq_iff_iff]
 simp [UInt8.le_iff_toNat_le]
theorem all_same (l:List UInt8):l.all wdig=l.all isDig:=by
 induction l with
 | nil=>rfl
 | cons c l ih=>rw [List.all_cons,List.all_cons,ih,dig_same]
def nuOf (t:ByteArray):Nat:=numL t.data.toList
theorem numW_parts {l:List UInt8} (h:numW l=true):1≤l.length∧l.length≤20∧l.all isDig=true∧l.head? ≠ some 48:=by
 unfold numW at h
 simp only [Bool.and_eq_true,decide_eq_true_eq] at h
 rw [all_same] at h
 exact ⟨h.1,h.2.1,h.2.2.1,h.2.2.2⟩
theorem numW_dig {l:List UInt8} (h:numW l=true):digB l=true:=by
 obtain ⟨h1,_,h3,_⟩:=numW_parts h
 unfold digB
 rw [h3]
 cases l with
 | nil=>simp at h1
 | cons c l=>rfl
theorem numW_lt {t:ByteArray} (h:numW t.data.toList=true):nuOf t < 10 ^ 20:=by
 obtain ⟨_,h2,h3,_⟩:=numW_parts h
 exact Nat.lt_of_lt_of_le (numL_lt _ h3) (Nat.pow_le_pow_right (by decide) h2)
theorem numW_dl {t:ByteArray} (h:numW t.data.toList=true):dl (nuOf t)≤3:=by
 refine dl_le (Nat.lt_trans (numW_lt h) ?_)
 decide
def nuT (m:Nat):ByteArray:=⟨(decL m).toArray⟩
theorem nuT_data (m:Nat):(nuT m).data.toList=decL m:=rfl
theorem numW_back {t:ByteArray} (h:numW t.data.toList=true):nuT (nuOf t)=t:=by
 obtain ⟨h1,_,h3,h4⟩:=numW_parts h
 have h5:digs 10 (val 10 (dvs t.data.toList))=dvs t.data.toList:=digs_val (by decide) _ (dvs_lt h3) (by
  intro x hx
  unfold dvs at hx
  rw [List.getLast?_map,List.getLast?_reverse] at hx
  cases hh:t.data.toList.head? with
  | none=>rw [hh] at hx;cases hx
  | some c =>
    rw [hh] at hx h4
    simp only [Option.map_some,Option.some.injEq] at hx
    have hc:isDig c=true:=List.all_eq_true.1 h3 c (List.mem_of_head? hh)
    have hc2:=(dig_iff c).1 hc
    rintro rfl
    have:c.toNat=48:=by omega
    exact h4 (congrArg some (UInt8.toNat_inj.1 this)))
 have h6:nuOf t ≠ 0:=by
  intro h0
  have:=(digs_len_pos (b:=10) (n:=nuOf t) (by decide)).2 h0
  unfold nuOf at this
  rw [numL_val,h5,dvs_len] at this
  omega
 have h7:decL (nuOf t)=t.data.toList:=by
  unfold decL
  rw [if_neg h6]
  unfold nuOf
  rw [numL_val,h5]
  unfold dvs
  rw [← List.map_reverse,List.reverse_reverse,List.map_map]
  conv=>rhs;rw [← List.map_id t.data.toList]
  apply List.map_congr_left
  intro c hc
  have hc2:=(dig_iff c).1 (List.all_eq_true.1 h3 c hc)
  show UInt8.ofNat (48 + (c.toNat - 48))=c
  rw [show 48 + (c.toNat - 48)=c.toNat by omega,UInt8.ofNat_toNat]
 unfold nuT
 rw [h7]
theorem nuT_inj {m k:Nat} (h:nuT m=nuT k):m=k:=by
 have h1:decL m=decL k:=by rw [← nuT_data,h,nuT_data]
 rw [← (numL_decL m).1,h1,(numL_decL k).1]
theorem nuT_one:nuT 1=oneB:=by decide +kernel
theorem nuOf_one:nuOf oneB=1:=by decide +kernel
abbrev QL:=List AL × List AL × List Nat
def RQ1 (w:World) (B:Nat) (v1 v2 v3:Value) (q:QL):Prop:=∃ A1 c1 A2 c2 A3 c3,v1 = .slice A1 q.1.length c1∧v2 = .slice A2 q.2.1.length c2∧v3 = .slice A3 q.2.2.length c3∧q.1.length≤c1∧q.2.1.length≤c2∧q.2.2.length≤c3∧q.2.2.length≤100000 ∧
 RC w B A1 (cellsA q.1)∧RC w B A2 (cellsA q.2.1)∧Rd U32 w B A3 q.2.2∧Good32 q.2.2
def RQ (w:World) (B:Nat) (A:Option Addr) (qs:List QL):Prop :=
 0 < qs.length → ∃ ad:Addr,A=some ad∧ad.block < B ∧ ∀ j q,qs[j]? = some q → ∃ v1 v2 v3,w.cell? (ad.add (j * 3))=some v1∧w.cell? (ad.add (j * 3 + 1))=some v2∧w.cell? (ad.add (j * 3 + 2))=some v3∧RQ1 w B v1 v2 v3 q
def Qs (W:World) (A:Option Addr) (qs:List QL):Prop:=Hid (RQ W W.heap.size A qs)
def Q1 (W:World) (v1 v2 v3:Value) (q:QL):Prop:=Hid (RQ1 W W.heap.size v1 v2 v3 q)
section
variable {w w' W W':World} {B B':Nat} {A:Option Addr} {qs:List QL} {q:QL} {v1 v2 v3:Value}
theorem RQ1.keep (h:RQ1 w B v1 v2 v3 q) (hk:∀ p:Addr,p.block < B→w'.cell? p=w.cell? p):RQ1 w' B v1 v2 v3 q:=by
 obtain ⟨A1,c1,A2,c2,A3,c3,e1,e2,e3,b1,b2,b3,b4,r1,r2,r3,r4⟩:=h
 exact ⟨A1,c1,A2,c2,A3,c3,e1,e2,e3,b1,b2,b3,b4,r1.keep hk,r2.keep hk,r3.keep hk,r4⟩
theorem RQ1.more (h:RQ1 w B v1 v2 v3 q) (hB:B≤B'):RQ1 w B' v1 v2 v3 q:=by
 obtain ⟨A1,c1,A2,c2,A3,c3,e1,e2,e3,b1,b2,b3,b4,r1,r2,r3,r4⟩:=h
 exact ⟨A1,c1,A2,c2,A3,c3,e1,e2,e3,b1,b2,b3,b4,r1.more hB,r2.more hB,r3.more hB,r4⟩
theorem Q1.up (h:Q1 W v1 v2 v3 q) (hb:Hid (Below W.heap.size W W')):Q1 W' v1 v2 v3 q:=(h.out.keep fun _ hp=>hb.out.cell hp).more hb.out.size
theorem Q1.al (h:Q1 W v1 v2 v3 q) (o:Obj):Q1 (W.alloc o) v1 v2 v3 q:=h.up ((Below.refl _ _).alloc (Nat.le_refl _) o)
theorem RQ.keep (h:RQ w B A qs) (hk:∀ p:Addr,p.block < B→w'.cell? p=w.cell? p):RQ w' B A qs:=fun hn=>by
 obtain ⟨ad,e,hb,hc⟩:=h hn
 refine ⟨ad,e,hb,fun j q hj=>?_⟩
 obtain ⟨v1,v2,v3,h1,h2,h3,h4⟩:=hc j q hj
 exact ⟨v1,v2,v3,(hk _ (by rw [yblock_add];exact hb)).trans h1,(hk _ (by rw [yblock_add];exact hb)).trans h2,(hk _ (by rw [yblock_add];exact hb)).trans h3,h4.keep hk⟩
theorem RQ.more (h:RQ w B A qs) (hB:B≤B'):RQ w B' A qs:=fun hn=>by
 obtain ⟨ad,e,hb,hc⟩:=h hn
 refine ⟨ad,e,by omega,fun j q hj=>?_⟩
 obtain ⟨v1,v2,v3,h1,h2,h3,h4⟩:=hc j q hj
 exact ⟨v1,v2,v3,h1,h2,h3,h4.more hB⟩
theorem Qs.up (h:Qs W A qs) (hb:Hid (Below W.heap.size W W')):Qs W' A qs:=(h.out.keep fun _ hp=>hb.out.cell hp).more hb.out.size
theorem Qs.al (h:Qs W A qs) (o:Obj):Qs (W.alloc o) A qs:=h.up ((Below.refl _ _).alloc (Nat.le_refl _) o)
theorem Qs.dr (h:Qs W A qs):Qs W.drew A qs:=h
theorem Qs.at_ {k:Nat} (h:Qs W A qs) (hk:qs[k]? = some q):∃ (ad:Addr) (v1 v2 v3:Value),A=some ad∧ad.block < W.heap.size ∧
 W.cell? (ad.add (k * 3))=some v1∧W.cell? ⟨(ad.add (k * 3)).block,(ad.add (k * 3)).off + 1,none⟩=some v2∧W.cell? ⟨(ad.add (k * 3)).block,(ad.add (k * 3)).off + 2,none⟩=some v3∧Q1 W v1 v2 v3 q:=by
 have hl:k < qs.length:=(List.getElem?_eq_some_iff.1 hk).1
 obtain ⟨ad,e,hb,hc⟩:=h.out (by omega)
 obtain ⟨v1,v2,v3,h1,h2,h3,h4⟩:=hc k q hk
 refine ⟨ad,v1,v2,v3,e,hb,h1,?_,?_,h4⟩
 ·rw [add_next ad (k * 3) 0];exact h2
 ·rw [add_next ad (k * 3) 1];exact h3
theorem Q1.open_ (h:Q1 W v1 v2 v3 q):∃ A1 c1 A2 c2 A3 c3,v1 = .slice A1 q.1.length c1∧v2 = .slice A2 q.2.1.length c2∧v3 = .slice A3 q.2.2.length c3∧q.1.length≤c1∧q.2.1.length≤c2∧q.2.2.length≤c3∧q.2.2.length≤100000∧Cs W A1 (cellsA q.1)∧Cs W A2 (cellsA q.2.1)∧Nm W A3 q.2.2.length c3 (val W32 q.2.2)∧Hid (Rd U32 W W.heap.size A3 q.2.2)∧Hid (Good32 q.2.2):=by
 obtain ⟨A1,c1,A2,c2,A3,c3,e1,e2,e3,b1,b2,b3,b4,r1,r2,r3,r4⟩:=h.out
 exact ⟨A1,c1,A2,c2,A3,c3,e1,e2,e3,b1,b2,b3,b4,r1,r2,⟨q.2.2,rfl,b3,b4,r3,r4,rfl⟩,r3,r4⟩
theorem own_cap {w:World} {base size n c:Nat} {e:TypeId} {A:Option Addr} {xs:List Value} (h:w.ownsRow base e size (.slice A n c) n xs):n≤c:=by
 rcases h.2 with ⟨h0,_⟩ | ⟨g',cap',cur,h0,_,_,h3,_⟩
 ·injection h0 with _ h1 h2;omega
 ·injection h0 with _ h1 h2;omega
theorem nm_rd {W:World} {A:Option Addr} {c m:Nat} (h:Nm W A (dl m) c m):dl m≤c∧dl m≤100000∧Rd U32 W W.heap.size A (digs W32 m)∧Good32 (digs W32 m):=by
 have hd:=h.dl
 obtain ⟨ws,h1,h2,h3,h4,h5,h6⟩:=h.out
 have e:ws=digs W32 m:=by
  have:=digs_take (b:=W32) (by decide) ws h5
  rw [h6] at this
  rw [← this]
  show ws=ws.take (dl m)
  rw [h1,List.take_length]
 exact ⟨h2,hd,e ▸ h4,e ▸ h5⟩
theorem q1_mk {W:World} {A1 A2 A3:Option Addr} {c1 c2 c3 m:Nat} {l l':List AL} (h1:Cs W A1 (cellsA l)) (b1:l.length≤c1) (h2:Cs W A2 (cellsA l')) (b2:l'.length≤c2) (h3:Nm W A3 (dl m) c3 m) :
 Q1 W (.slice A1 l.length c1) (.slice A2 l'.length c2) (.slice A3 (dl m) c3) (l,l',digs W32 m):=by
 obtain ⟨k1,k2,k3,k4⟩:=nm_rd h3
 exact ⟨A1,c1,A2,c2,A3,c3,rfl,rfl,rfl,b1,b2,k1,k2,h1.out,h2.out,k3,k4⟩
theorem RC.setn {p:Addr} {cs:List Value} {v:Value} (h:RC w B A cs) (hc:w.cell? p=some v) (hv:v ∉ cs) (u:Value):RC (w.setCell p u) B A cs:=fun hn=>by
 obtain ⟨ad,e,hb,hx⟩:=h hn
 refine ⟨ad,e,hb,fun j x hj=>?_⟩
 have h6:=hx j x hj
 rw [World.cell?_setCell_other w p _ u (by intro e;rw [← e,hc] at h6;injection h6 with h6;exact hv (h6 ▸ List.mem_of_getElem? hj))]
 exact h6
theorem cellsA_ns {l:List AL} {A:Option Addr} {n c:Nat}:Value.slice A n c ∉ cellsA l:=by
 unfold cellsA
 rw [List.mem_flatMap]
 rintro ⟨a,_,h⟩
 simp [cellA] at h
theorem Rd.setn {p:Addr} {xs:List Nat} {A':Option Addr} {n c:Nat} (h:Rd U32 w B A xs) (hc:w.cell? p=some (.slice A' n c)) (u:Value):Rd U32 (w.setCell p u) B A xs:=fun hn=>by
 obtain ⟨ad,e,hb,hx⟩:=h hn
 refine ⟨ad,e,hb,fun j x hj=>?_⟩
 have h6:=hx j x hj
 rw [World.cell?_setCell_other w p _ u (by intro e;rw [← e,hc] at h6;injection h6 with h6;exact not_w32 x h6)]
 exact h6
theorem Q1.setn {p:Addr} {A':Option Addr} {n c:Nat} (h:Q1 W v1 v2 v3 q) (hc:W.cell? p=some (.slice A' n c)) (u:Value):Q1 (W.setCell p u) v1 v2 v3 q:=by
 obtain ⟨A1,c1,A2,c2,A3,c3,e1,e2,e3,b1,b2,b3,b4,r1,r2,r3,r4⟩:=h.out
 have hz:(W.setCell p u).heap.size=W.heap.size:=by simp [World.setCell]
 unfold Q1
 rw [hz]
 exact ⟨A1,c1,A2,c2,A3,c3,e1,e2,e3,b1,b2,b3,b4,r1.setn hc cellsA_ns u,r2.setn hc cellsA_ns u,r3.setn hc u,r4⟩
theorem Cs.setn {p:Addr} {l:List AL} {A':Option Addr} {n c:Nat} (h:Cs W A (cellsA l)) (hc:W.cell? p=some (.slice A' n c)) (u:Value):Cs (W.setCell p u) A (cellsA l):=by
 have hz:(W.setCell p u).heap.size=W.heap.size:=by simp [World.setCell]
 unfold Cs
 rw [hz]
 exact h.out.setn hc cellsA_ns u
end
def toP (q:QL):PL:=(q.1,q.2.1,nuT (val W32 q.2.2))
def ofP (p:PL):QL:=(p.1,p.2.1,digs W32 (nuOf p.2.2))
def okP (p:PL):Prop:=numW p.2.2.data.toList=true
theorem toP_ofP {p:PL} (h:okP p):toP (ofP p)=p:=by
 unfold toP ofP
 rw [val_digs (by decide),numW_back h]
theorem oneB_num:numW oneB.data.toList=true:=by decide +kernel
theorem headD_num (l:List ByteArray):numW (headD l).1.data.toList=true:=by
 unfold headD
 split
 ·exact oneB_num
 ·split
  ·rename_i h;exact h.1
  ·exact oneB_num
theorem partC_two {names ps a d:List ByteArray}:partC names ps [a,d]=if d=[] then none else (atomsL names ps a).bind fun r=>(atomsL names ps (headD d).2).bind fun s=>if r.length + s.length≤8 then some (r,s,(headD d).1) else none:=rfl
theorem partC_sole {names ps a:List ByteArray}:partC names ps [a]=(atomsL names ps a).bind fun r=>if 0 < r.length∧r.length≤8 then some (r,[],oneB) else none:=rfl
theorem partC_ok {names ps:List ByteArray} {css:List (List ByteArray)} {p:PL} (h:partC names ps css=some p):okP p∧p.1.length + p.2.1.length≤8:=by
 unfold okP
 match css,h with
 | [],h=>cases h
 | _ :: _ :: _ :: _,h=>cases h
 | [a],h =>
   rw [partC_sole] at h
   cases hr:atomsL names ps a with
   | none=>rw [hr] at h;cases h
   | some r =>
     rw [hr] at h
     simp only [Option.bind_some] at h
     by_cases h1:0 < r.length∧r.length≤8
     ·rw [if_pos h1] at h
      injection h with h
      subst h
      exact ⟨oneB_num,h1.2⟩
     ·rw [if_neg h1] at h;cases h
 | [a,d],h =>
   rw [partC_two] at h
   by_cases h0:d=[]
   ·rw [if_pos h0] at h;cases h
   ·rw [if_neg h0] at h
    cases hr:atomsL names ps a with
    | none=>rw [hr] at h;cases h
    | some r =>
      cases hs:atomsL names ps (headD d).2 with
      | none=>rw [hr,hs] at h;cases h
      | some s =>
        rw [hr,hs] at h
        simp only [Option.bind_some] at h
        by_cases h1:r.length + s.length≤8
        ·rw [if_pos h1] at h
         injection h with h
         subst h
         exact ⟨headD_num d,h1⟩
        ·rw [if_neg h1] at h;cases h
end Go.Proofs.YtfflmmbhpchloaaGreatDoor
end
