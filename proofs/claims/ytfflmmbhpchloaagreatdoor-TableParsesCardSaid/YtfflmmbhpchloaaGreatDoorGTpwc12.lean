/- Each theorem here says its own conditions. -/
import Derived.Test.YtfflmmbhpchloaaGreatDoorGTpwc11
import Derived.Laws.BytesArg
set_option maxRecDepth 100000
set_option maxHeartbeats 16000000
section
open Go.RowKit
namespace Go.Proofs.YtfflmmbhpchloaaGreatDoor
def decL (m:Nat):List UInt8:=if m=0 then [48] else (digs 10 m).reverse.map fun d=>UInt8.ofNat (48 + d)
def TextPost (w:World) (m:Nat) (e:Ending) (w':World):Prop:=∃ t:ByteArray,e = .returned (.string t)∧t.data.toList=decL m∧Below w.heap.size w w'
def letter (d:Nat):UInt8:=UInt8.ofNat (48 + d)
theorem letter_toNat {d:Nat} (h:d < 10):(letter d).toNat=48 + d:=by unfold letter;rw [UInt8.toNat_ofNat'];omega
theorem letter_ne {d:Nat} (h:d < 10) (h0:d ≠ 0):(letter d == 48)=false:=by
 rw [beq_eq_false_iff_ne]
 intro e
 have h1:=letter_toNat h
 rw [e] at h1
 have:(48:UInt8).toNat=48:=rfl
 omega
theorem drop_rep (k:Nat) (l:List UInt8):(List.replicate k 48 ++ l).dropWhile (· == 48)=l.dropWhile (· == 48):=by
 induction k with
 | zero=>rfl
 | succ k ih=>rw [List.replicate_succ,List.cons_append];exact ih
theorem text_end {dd:List Nat} {m:Nat} (hd:∀ d ∈ dd,d < 10) (hv:val 10 dd=m) (hm:0 < m):((dd.map letter).reverse).dropWhile (· == 48)=decL m:=by
 obtain ⟨k,hk⟩:=exists_zeros (b:=10) (by omega) dd hd
 rw [hv] at hk
 have e:(dd.map letter).reverse=List.replicate k 48 ++ ((digs 10 m).reverse.map letter):=by
  rw [hk,List.map_append,List.reverse_append,List.map_replicate,List.reverse_replicate,← List.map_reverse];rfl
 rw [e,drop_rep]
 unfold decL
 rw [if_neg (by omega)]
 show ((digs 10 m).reverse.map letter).dropWhile (· == 48)=(digs 10 m).reverse.map letter
 cases hr:(digs 10 m).reverse with
 | nil=>rfl
 | cons a l =>
   have h1:(digs 10 m).getLast? = some a:=by
    have:digs 10 m=(a :: l).reverse:=by rw [← hr,List.reverse_reverse]
    rw [this,List.getLast?_reverse];rfl
   have h2:=digs_last (b:=10) (by omega) m a h1
   have h3:a < 10:=digs_lt (b:=10) (by omega) m a (List.mem_of_getLast? h1)
   rw [List.map_cons,List.dropWhile_cons,letter_ne h3 h2];rfl
theorem text_conv {w:World} {base g cap n:Nat} {bs:List Nat} (h:OwnF U8 5 w base g cap bs) (hb:∀ b ∈ bs,b < 256) (hn:n=bs.length) :
 (convert 23 9 (.slice (some ⟨g,0,none⟩) n cap)).run Tryz.prog w = .ok (.string ⟨(bs.map UInt8.ofNat).toArray⟩) w:=by
 subst hn
 have h1:=run_convert_bytes_back (P:=Tryz.prog) w 23 9 5 ⟨g,0,none⟩ cap (bs.map UInt8.ofNat) Tryz.underlying23 Tryz.underlying5 Tryz.underlying9 (fun j hj=>by
  have hj':j < bs.length:=by simpa using hj
  have h2:=h.cell (List.getElem?_eq_getElem hj')
  have e:(⟨g,0,none⟩:Addr).add j=⟨g,j,none⟩:=by unfold Addr.add;split <;> simp_all
  rw [e,h2]
  have h3:=hb _ (List.getElem_mem hj')
  simp [U8,List.getElem_map,UInt8.toNat_ofNat']
  omega)
 rwa [List.length_map] at h1
def UD (d:Nat):Value:=.int .u8 ((48 + d:Nat):Int)
def NewZero (w:World) (m:Nat) (e:Ending) (w':World):Prop:=∃ g,e = .returned (.slice (some ⟨g,0,none⟩) 0 0)∧Hid (w.heap.size≤g)∧Hid (Blk U32 142 w' g (digs W32 m))∧Hid (Below w.heap.size w w')
theorem fresh_zero {A:Option Addr} {m c:Nat} {w:World} (h:Rd U32 w w.heap.size A (digs W32 m)) (h0:dl m=0):Calls Tryz.prog 74 #[.slice A 0 c] w (NewZero w m):=by
 have h1:=fresh_can (c:=c) h (by omega)
 rw [h0] at h1
 exact h1.mono fun _ _ ⟨g,h2,h3⟩=>⟨g,by rw [h2,h0],h3⟩
theorem text_trim {g k c:Nat} {L q:List Nat} {w:World} (hk:k≤c) (hq1:Hid (q.length=k)) (hq2:Hid (Good32 q)) (hq4:Hid (Blk U32 142 w g (q ++ L.drop k))) (hc:c≤1000000) :
 Hid (Calls Tryz.prog 75 #[.slice (some ⟨g,0,none⟩) k c] w fun e w'=>e = .returned (.slice (some ⟨g,0,none⟩) (dl (val W32 q)) c)∧w=w'):=by
 have h1:=hq4.out.rd hq4.out.lt 0 k
 rw [List.drop_zero,List.take_append_of_le_length (by rw [hq1.out];exact Nat.le_refl _),List.take_of_length_le (by rw [hq1.out];exact Nat.le_refl _)] at h1
 have h2:=trim_any _ q c w w.heap.size h1 hq2.out (by rw [hq1.out];omega) (by rw [hq1.out];exact hk)
 rw [hq1.out] at h2
 exact h2
theorem text_app {w wr w1:World} {g n:Nat} {dv:Value} {xs:List Value} {B:List Nat} {o:Obj} (hown:wr.ownsRow (g + 1) 5 1 dv n xs) (hblk:Blk U32 142 wr g B) (hbel:Below w.heap.size w wr) (hg:w.heap.size≤g)
 (hgrow:(wr.alloc o).grownBy w1 dv.ownBlock):Hid (Blk U32 142 w1 g B)∧Hid (Below w.heap.size w w1):=by
 have h1:∀ k,dv.ownBlock=some k→g + 1≤k:=fun k hk=>(hown.lt k hk).1
 have h2:=hblk.lt
 refine ⟨(hblk.alloc o).grown hgrow (fun e=>by have:=h1 g e.symm;omega),(hbel.alloc (by omega) _).grown hgrow (by simp;omega) (fun k hk=>by have:=h1 k hk;omega)⟩
theorem map_snoc (dd:List Nat) (d:Nat):dd.map UD ++ [UD d]=(dd ++ [d]).map UD:=by simp
theorem Text_any {A:Option Addr} {n c m:Nat} {w:World} (h:Arg w w.heap.size A n c m):Calls Tryz.prog 43 #[.agg #[.slice A n c]] w (TextPost w m):=by
 have H:Hid (∀ o,Arg (w.alloc o) w.heap.size A n c m):=fun o=>h.below ((Below.refl _ _).alloc (Nat.le_refl _) _)
 have HX:Hid (∀ o,Rd U32 (w.alloc o) (w.alloc o).heap.size A (digs W32 m)):=fun o=>(h.digs.1.below ((Below.refl _ _).alloc (Nat.le_refl _) _)).2.more (by simp)
 have hl:dl m≤100000:=by have:=h.digs.2;obtain ⟨_,_,_,h3,_⟩:=h;omega
 clear h
 by_cases h0:dl m=0
 ·have HM0:Hid (m=0):=(digs_len_pos (by decide)).1 h0
  go_enter Tryz.func43,Tryz.ntmps43
  go_wp2_with (first | (go_at_call 75;go_must (refine (trim_arg (H.out _)).mono ?_);rintro e w2 ⟨rfl,rfl⟩) | (go_at_call 74;go_must (refine (fresh_zero (HX.out _) h0).mono ?_);rintro e w1 ⟨g,rfl,HGE,HBLK,HBEL⟩))
  go_ret
  exact ⟨⟨#[48]⟩,rfl,by rw [HM0.out];rfl,((Below.refl _ _).alloc (Nat.le_refl _) _).trans (HBEL.out.mono (by simp))⟩
 ·obtain ⟨i0,hi0,hz0,hz1,hz2⟩:=info_parts Tryz.infoU8
  have I0:=hide hi0
  have Z0:=hide hz0
  have Z1:=hide hz1
  have Z2:=hide hz2
  clear hi0 hz0 hz1 hz2
  have hp:0 < dl m:=by omega
  have hdz:(((dl m:Nat):Int) == 0)=false:=by rw [beq_eq_false_iff_ne];omega
  have HM:Hid (0 < m):=by
   unfold Hid
   rcases Nat.eq_zero_or_pos m with rfl | h1
   ·exact absurd (by unfold dl;rw [digs_zero];rfl) h0
   ·exact h1
  clear h0
  go_enter Tryz.func43,Tryz.ntmps43
  go_wp2_with (first | (go_at_call 75;go_must (refine (trim_arg (H.out _)).mono ?_);rintro e w2 ⟨rfl,rfl⟩) | (go_at_call 74;go_must (refine (fresh_can (HX.out _) (by omega)).mono ?_);rintro e w1 ⟨g,rfl,HGE,HBLK,HBEL⟩))
  have HW1:Hid (Below w.heap.size w w1):=((Below.refl _ _).alloc (Nat.le_refl _) _).trans (HBEL.out.mono (by simp))
  have hgw:w.heap.size + 1≤g:=by have:=HGE.out;simpa using this
  clear HBEL HGE H HX
  have hp':¬ dl m=0:=by omega
  have HLEN:Hid (dl m=(digs W32 m).length):=rfl
  go_loopg [3,4,5] m (fun K lv dv gv wr=>∃ (v:Nat) (L dd:List Nat),v≤K∧lv = .slice (some ⟨g,0,none⟩) (dl v) (dl m)∧dl v≤dl m∧Hid (L.length=dl m)∧Hid (Good32 L)∧Hid (L.take (dl v)=digs W32 v)∧Hid (Blk U32 142 wr g L) ∧
   Hid (wr.ownsRow (g + 1) 5 1 dv dd.length (dd.map UD))∧Hid (∀ d ∈ dd,d < 10)∧Hid (val 10 dd + 10 ^ dd.length * v=m)∧dd.length≤10 * dl m + 9∧Hid (Below w.heap.size w wr))
  case atStart=>exact ⟨m,digs W32 m,[],Nat.le_refl _,rfl,Nat.le_refl _,rfl,good_digs m,List.take_of_length_le (Nat.le_refl _),HBLK,World.ownsRow_nil _ _ _ _,by intro d hd;simp at hd,by simp [Hid,val],by simp,HW1⟩
  case round =>
   obtain ⟨v,L,dd,hvk,rfl,hdl,hLl,hLg,hLt,hblk,hown,hdd,hnum,hlen,hbel⟩:=hrel
   by_cases hv0:dl v=0
   ·have HV0:Hid (v=0):=(digs_len_pos (by decide)).1 hv0
    have HNE:Hid (val 10 dd=m):=by have h1:=hnum.out;rw [HV0.out] at h1;simpa [Hid] using h1
    have hvz:¬ 0 < dl v:=by omega
    have hown2:=hown.out
    rcases hown2.2 with ⟨_,hz⟩ | ⟨g2,cap,cur,rfl,_⟩
    ·have:=HNE.out
     rw [List.eq_nil_of_length_eq_zero hz] at this
     have:=HM.out
     simp [val] at *;omega
    ·have HOF:Hid (OwnF U8 5 wr (g + 1) g2 cap (dd.map (48 + ·))):=by
      unfold Hid OwnF
      rw [List.length_map,List.map_map]
      exact hown2
     have HLD:Hid (dd.length=(dd.map (48 + ·)).length):=by simp [Hid]
     have H256:Hid (∀ b ∈ (dd.map (48 + ·)).reverse,b < 256):=by
      intro b hb
      obtain ⟨d,hd,rfl⟩:=List.mem_map.1 (List.mem_reverse.1 hb)
      have:=hdd.out d hd;omega
     obtain ⟨s,hs⟩:∃ s:ByteArray,s=⟨(((dd.map (48 + ·)).reverse).map UInt8.ofNat).toArray⟩:=⟨_,rfl⟩
     have HS:Hid (s.data.toList.dropWhile (· == 48)=decL m):=by
      unfold Hid
      rw [hs,← text_end hdd.out HNE.out HM.out]
      show ((((dd.map (48 + ·)).reverse).map UInt8.ofNat)).dropWhile _=_
      rw [List.map_reverse,List.map_map];rfl
     have hcvs:∀ w3,OwnF U8 5 w3 (g + 1) g2 cap (dd.map (48 + ·)).reverse→(convert 23 9 (.slice (some ⟨g2,0,none⟩) dd.length cap)).run Tryz.prog w3 = .ok (.string s) w3:=fun w3 h3=>by
      rw [hs];exact text_conv h3 H256.out (by simp)
     have HCV:=hide hcvs
     clear hown2 hv0 hs hcvs
     go_wp2_with (first | (go_at_call 77;go_must (refine (Reverse_any HLD.out HOF.out (by omega)).mono ?_);rintro e w3 ⟨rfl,ho3,hg3⟩;have HG3:=hide hg3;have hcv:=HCV.out w3 ho3;clear hg3 ho3) | (go_at_call 78;go_must (refine (TrimLeft_any s _).mono ?_);rintro e w' ⟨t,rfl,ht,rfl⟩;have HT:=hide ht;clear ht))
     go_ret
     exact ⟨t,rfl,by rw [HT.out,HS.out],hbel.out.trans (grown_below HG3.out (by have:=HOF.out.ge.1;omega) HOF.out.ge.2)⟩
   ·have hvp:0 < dl v:=by omega
    have HVP:Hid (0 < v):=by
     unfold Hid
     rcases Nat.eq_zero_or_pos v with rfl | h1
     ·exact absurd (by unfold dl;rw [digs_zero];rfl) hv0
     ·exact h1
    have hlen2:dd.length < 10 * dl m:=by
     have h1:10 ^ dd.length≤m:=by
      rw [← hnum.out]
      exact Nat.le_trans (Nat.le_mul_of_pos_right _ HVP.out) (Nat.le_add_left _ _)
     have h2:m < W32 ^ dl m:=lt_pow_digs (b:=W32) (by decide) m
     have h3:W32 ^ dl m≤(10 ^ 10) ^ dl m:=Nat.pow_le_pow_left (by decide) _
     rw [← Nat.pow_mul] at h3
     exact (Nat.pow_lt_pow_iff_right (a:=10) (by omega)).1 (by omega)
    clear hv0
    go_wp2_with (first | (go_at_call 76;go_must (refine (divideByWord_any (d:=1000000000) hblk.out (by rw [hLl.out];exact hdl) hLg.out (by omega) (by omega) (by omega)).mono ?_);rintro e w2 ⟨q,rest,rfl,hq1,hq2,hrest,hq3,hq4,hq5⟩;have HQ5:=hide hq5;clear hq5;have CT:=text_trim hdl hq1 hq2 hq4 (by omega)) | (go_at_call 75;go_must (refine CT.out.mono ?_);rintro e w3 ⟨rfl,rfl⟩))
    obtain ⟨v',hv'⟩:∃ v',v'=val W32 q:=⟨_,rfl⟩
    rw [← hv']
    have HV':=hide hv'
    have HEQ:Hid (v=v' * 1000000000 + rest):=by
     have h1:=hq3.out
     rw [hLt.out,val_digs32,← hv'] at h1
     exact h1
    have HB2:Hid (Below w.heap.size w w2):=hbel.out.trans (grown_below HQ5.out (by omega) hblk.out.lt)
    have HO2:Hid (w2.ownsRow (g + 1) 5 1 u4 dd.length (dd.map UD)):=hown.out.kept HQ5.out (by
     rcases hv:u4.ownBlock with _ | k
     ·exact .inl rfl
     ·refine .inr (fun e=>?_)
      have:=(hown.out.lt k hv).1
      injection e with e;omega)
    have hr9:rest≤999999999:=by omega
    clear hv' hown hbel hblk
    go_loopw [4,5,20] (fun dv gv jv wr=>∃ (j gr:Nat) (de:List Nat),j≤9∧gr≤999999999∧Hid (gr < 10 ^ (9 - j))∧gv = .int .u32 (gr:Int)∧jv = .int .i64 (j:Int)∧Hid (de.length=dd.length + j)∧Hid (wr.ownsRow (g + 1) 5 1 dv de.length (de.map UD))∧Hid (∀ d ∈ de,d < 10) ∧
     Hid (val 10 de + 10 ^ de.length * (gr + 10 ^ (9 - j) * v')=m)∧Hid (Blk U32 142 wr g (q ++ L.drop (dl v)))∧Hid (Below w.heap.size w wr))
     (fun _ _ jv _=>9 - (intOf jv).toNat)
    case atStart=>exact ⟨0,rest,dd,by omega,hr9,hrest,rfl,rfl,rfl,HO2,hdd,by have h1:=hnum.out;rw [HEQ.out] at h1;rw [← h1];unfold Hid;congr 2;omega,hq4,HB2⟩
    case round =>
     obtain ⟨j,gr,de,hj,hgr,hgl,rfl,rfl,hdl2,hown,hdd2,hnum2,hblk,hbel⟩:=hrel
     by_cases hlt:j < 9
     ·have HBE:Hid (g + 1≤(wr.alloc (.cells #[.int .u8 (48 + (gr:Int) % 10)] 5)).heap.size):=by have:=hblk.out.lt;simp [Hid];omega
      have hde:de.length≤2000000:=by rw [hdl2.out];omega
      have h63:de.length + 1≤maxLen:=by simp only [maxLen];omega
      have H63:=hide h63
      clear h63
      go_wp2_with (first | (at_builtin;go_must (refine wpList_append_own _ rfl (.tmp 22) (.tmp 27) 23 rfl (g + 1) 5 i0 (.int .u8 0) 1 1 Tryz.underlying23 I0.out Z0.out Z1.out Z2.out rfl (by decide) _ _ _ rfl (hown.out.alloc _) ⟨wr.heap.size,0,none⟩ 1 1 [.int .u8 (48 + (gr:Int) % 10)] rfl rfl (cell_one_new _ _ _) (by intro u hu;simp at hu;subst hu;rfl) H63.out (by omega) HBE.out ?_;intro v2 w3 hown' hgrow hnil)))
      obtain ⟨hbk2,hbe2⟩:=text_app hown.out hblk.out hbel.out (by omega) hgrow
      go_roundw
      case rel =>
       refine ⟨j + 1,gr / 10,de ++ [gr % 10],by omega,by omega,?_,rfl,by go_num,by unfold Hid;rw [List.length_append,hdl2.out];rfl,?_,?_,?_,hbk2,hbe2⟩
       ·unfold Hid
        have h1:=hgl.out
        rw [show 9 - j=(9 - (j + 1)) + 1 by omega,Nat.pow_succ] at h1
        exact (Nat.div_lt_iff_lt_mul (by omega)).2 h1
       ·unfold Hid
        rw [List.length_append,← map_snoc]
        exact hown'
       ·intro d hd
        rcases List.mem_append.1 hd with hd | hd
        ·exact hdd2.out d hd
        ·simp at hd;omega
       ·unfold Hid
        rw [val_snoc,List.length_append,List.length_singleton,Nat.pow_succ]
        refine digit_math ?_
        have h1:=hnum2.out
        rw [show 9 - j=(9 - (j + 1)) + 1 by omega,Nat.pow_succ,Nat.mul_comm (10 ^ (9 - (j + 1))) 10] at h1
        exact h1
      case measure=>simp [intOf];omega
     ·obtain rfl:j=9:=by omega
      have HG0:Hid (gr=0):=by have:=hgl.out;unfold Hid;simpa using this
      have HN2:Hid (val 10 de + 10 ^ de.length * v'=m):=by
       have h1:=hnum2.out
       rw [HG0.out] at h1
       simpa [Hid] using h1
      have HVL:Hid (v' < v):=by have:=HEQ.out;have:=HVP.out;unfold Hid;omega
      have HDV:Hid (dl v'≤dl v):=digs_len_mono (by decide) (Nat.le_of_lt HVL.out)
      go_wp2
      go_roundg v'
      case measure=>have:=HVL.out;omega
      case rel =>
       refine ⟨v',q ++ L.drop (dl v),de,Nat.le_refl _,rfl,Nat.le_trans HDV.out hdl,?_,good_app hq2.out (good_drop hLg.out _),?_,hblk,hown,hdd2,HN2,by rw [hdl2.out];omega,hbel⟩
       ·unfold Hid
        rw [List.length_append,hq1.out,List.length_drop,hLl.out];omega
       ·unfold Hid
        have h1:=digs_take (b:=W32) (by decide) q hq2.out
        rw [← HV'.out] at h1
        rw [List.take_append_of_le_length (by rw [hq1.out];exact HDV.out)]
        exact h1
theorem cmpI_beq (m n:Nat):(cmpI m n == 0)=decide (m=n):=by
 rcases Nat.lt_trichotomy m n with h | h | h
 ·rw [cmpI_lt h,decide_eq_false (by omega)];rfl
 ·rw [cmpI_eq h,decide_eq_true h];rfl
 ·rw [cmpI_gt h,decide_eq_false (by omega)];rfl
theorem chain {w a b:World} (h:Hid (Below w.heap.size w a)) (hb:Below a.heap.size a b):Hid (Below w.heap.size w b):=h.out.trans (hb.mono h.out.size)

theorem start4 {w wa:World} {v0 v1 v2:Value} {t:TypeId} (h:Hid (Below w.heap.size w wa)) :
 (((wa.alloc (.cells #[v0] t)).alloc (.cells #[v1] t)).alloc (.cells #[v2] t)).cell? ⟨wa.heap.size,0,none⟩=some v0 ∧
 (((wa.alloc (.cells #[v0] t)).alloc (.cells #[v1] t)).alloc (.cells #[v2] t)).cell? ⟨wa.heap.size + 1,0,none⟩=some v1 ∧
 (((wa.alloc (.cells #[v0] t)).alloc (.cells #[v1] t)).alloc (.cells #[v2] t)).cell? ⟨wa.heap.size + 1 + 1,0,none⟩=some v2 ∧
 Below w.heap.size w (((wa.alloc (.cells #[v0] t)).alloc (.cells #[v1] t)).alloc (.cells #[v2] t))∧wa.heap.size + 3≤(((wa.alloc (.cells #[v0] t)).alloc (.cells #[v1] t)).alloc (.cells #[v2] t)).heap.size:=by
 have b1:(wa.alloc (.cells #[v0] t)).heap[wa.heap.size]? = some (.cells #[v0] t (0,0)):=heap_alloc_new wa _
 have b2:((wa.alloc (.cells #[v0] t)).alloc (.cells #[v1] t)).heap[wa.heap.size + 1]? = some (.cells #[v1] t (0,0)):=by simpa using heap_alloc_new (wa.alloc (.cells #[v0] t)) (.cells #[v1] t)
 have b3:(((wa.alloc (.cells #[v0] t)).alloc (.cells #[v1] t)).alloc (.cells #[v2] t)).heap[wa.heap.size + 1 + 1]? = some (.cells #[v2] t (0,0)):=by simpa using heap_alloc_new ((wa.alloc (.cells #[v0] t)).alloc (.cells #[v1] t)) (.cells #[v2] t)
 have c1:(((wa.alloc (.cells #[v0] t)).alloc (.cells #[v1] t)).alloc (.cells #[v2] t)).heap[wa.heap.size]? = some (.cells #[v0] t (0,0)) :=
  (Below.heap_alloc _ _ _ (by simp;omega)).trans ((Below.heap_alloc _ _ _ (by simp)).trans b1)
 have c2:(((wa.alloc (.cells #[v0] t)).alloc (.cells #[v1] t)).alloc (.cells #[v2] t)).heap[wa.heap.size + 1]? = some (.cells #[v1] t (0,0)):=(Below.heap_alloc _ _ _ (by simp)).trans b2
 have hs:=h.out.size
 exact ⟨(one_cell c1).1,(one_cell c2).1,(one_cell b3).1,((h.out.alloc hs _).alloc (by simp;omega) _).alloc (by simp;omega) _,by simp⟩
theorem drew4 {w W:World} {b:Nat} {v0 v1 v2:Value}
 (h:W.cell? ⟨b,0,none⟩=some v0∧W.cell? ⟨b + 1,0,none⟩=some v1∧W.cell? ⟨b + 1 + 1,0,none⟩=some v2∧Below w.heap.size w W∧b + 3≤W.heap.size) :
 W.drew.cell? ⟨b,0,none⟩=some v0∧W.drew.cell? ⟨b + 1,0,none⟩=some v1∧W.drew.cell? ⟨b + 1 + 1,0,none⟩=some v2∧Below w.heap.size w W.drew∧b + 3≤W.drew.heap.size :=
 ⟨h.1,h.2.1,h.2.2.1,h.2.2.2.1.drew,h.2.2.2.2⟩
def IntPost (W:World) (v:Int) (e:Ending) (w':World):Prop:=e = .returned (.int .i64 v)∧Hid (Below W.heap.size W w')
def NumH2 (w:World) (v:Nat) (e:Ending) (w':World):Prop:=∃ A c,e = .returned (.agg #[.slice A (dl v) c])∧Hid (Can w' w'.heap.size A c v)∧Hid (Below w.heap.size w w')
theorem gcd_step (X Y:Nat):Nat.gcd Y (X % Y)=Nat.gcd X Y:=by
 rw [Nat.gcd_comm X Y,Nat.gcd_rec Y X,Nat.gcd_comm]
theorem keep5 {w W W':World} {b:Nat} {v0 v1 v2:Value} (hb:Hid (Below W.heap.size W W'))
 (h:W.cell? ⟨b,0,none⟩=some v0∧W.cell? ⟨b + 1,0,none⟩=some v1∧W.cell? ⟨b + 1 + 1,0,none⟩=some v2∧W.frozen? ⟨b + 1 + 1,0,none⟩=false∧Below w.heap.size w W∧b + 3≤W.heap.size) :
 W'.cell? ⟨b,0,none⟩=some v0∧W'.cell? ⟨b + 1,0,none⟩=some v1∧W'.cell? ⟨b + 1 + 1,0,none⟩=some v2∧W'.frozen? ⟨b + 1 + 1,0,none⟩=false∧Below w.heap.size w W'∧b + 3≤W'.heap.size:=by
 obtain ⟨h0,h1,h2,hf,h3,h4⟩:=h
 have hs:=hb.out.size
 exact ⟨(hb.out.cell (by simp;omega)).trans h0,(hb.out.cell (by simp;omega)).trans h1,(hb.out.cell (by simp;omega)).trans h2,(hb.out.frozen (by simp;omega)).trans hf,h3.trans (hb.out.mono h3.size),by omega⟩
theorem start5 {w wa:World} {v0 v1 v2:Value} {t:TypeId} (h:Hid (Below w.heap.size w wa)) :
 (((wa.alloc (.cells #[v0] t)).alloc (.cells #[v1] t)).alloc (.cells #[v2] t)).drew.cell? ⟨wa.heap.size,0,none⟩=some v0 ∧
 (((wa.alloc (.cells #[v0] t)).alloc (.cells #[v1] t)).alloc (.cells #[v2] t)).drew.cell? ⟨wa.heap.size + 1,0,none⟩=some v1 ∧
 (((wa.alloc (.cells #[v0] t)).alloc (.cells #[v1] t)).alloc (.cells #[v2] t)).drew.cell? ⟨wa.heap.size + 1 + 1,0,none⟩=some v2 ∧
 (((wa.alloc (.cells #[v0] t)).alloc (.cells #[v1] t)).alloc (.cells #[v2] t)).drew.frozen? ⟨wa.heap.size + 1 + 1,0,none⟩=false ∧
 Below w.heap.size w (((wa.alloc (.cells #[v0] t)).alloc (.cells #[v1] t)).alloc (.cells #[v2] t)).drew∧wa.heap.size + 3≤(((wa.alloc (.cells #[v0] t)).alloc (.cells #[v1] t)).alloc (.cells #[v2] t)).drew.heap.size:=by
 obtain ⟨a0,a1,a2,a3,a4⟩:=drew4 (start4 (v0:=v0) (v1:=v1) (v2:=v2) (t:=t) h)
 have b3:(((wa.alloc (.cells #[v0] t)).alloc (.cells #[v1] t)).alloc (.cells #[v2] t)).heap[wa.heap.size + 1 + 1]? = some (.cells #[v2] t (0,0)):=by simpa using heap_alloc_new ((wa.alloc (.cells #[v0] t)).alloc (.cells #[v1] t)) (.cells #[v2] t)
 exact ⟨a0,a1,a2,(one_cell b3).2,a3,a4⟩
theorem below5 {w W:World} {b:Nat} {f:Prop} {v0 v1 v2:Option Value} {a0 a1 a2:Addr} (h:W.cell? a0=v0∧W.cell? a1=v1∧W.cell? a2=v2∧f∧Below w.heap.size w W∧b≤W.heap.size):Below w.heap.size w W:=h.2.2.2.2.1
theorem Gcd_any {A A':Option Addr} {n n' c c' m m':Nat} {w:World} (h:Arg w w.heap.size A n c m) (h':Arg w w.heap.size A' n' c' m') (hl:dl m≤99999) (hl':dl m'≤99999) :
 Calls Tryz.prog 70 #[.agg #[.slice A n c],.agg #[.slice A' n' c']] w (NumH2 w (Nat.gcd m m')):=by
 have H:Hid (∀ W,Below w.heap.size w W→Arg W W.heap.size A n c m):=fun W hb=>(h.below hb).more hb.size
 have H':Hid (∀ W,Below w.heap.size w W→Arg W W.heap.size A' n' c' m'):=fun W hb=>(h'.below hb).more hb.size
 have CF:Hid (∀ W,Below w.heap.size w W→Calls Tryz.prog 74 #[.slice A (dl m) c] W (NewCan W m)):=fun W hb=>fresh_can (H.out W hb).digs.1.2 (by omega)
 have CF':Hid (∀ W,Below w.heap.size w W→Calls Tryz.prog 74 #[.slice A' (dl m') c'] W (NewCan W m')):=fun W hb=>fresh_can (H'.out W hb).digs.1.2 (by omega)
 have HL:=hide hl
 have HL':=hide hl'
 clear h h' hl hl'
 go_enter Tryz.func70,Tryz.ntmps70
 go_wp2_with fail
 have HR0:Hid (Below w.heap.size w w):=Below.refl _ _
 go_region_held3 (fun w'=>w'.cell? ⟨w.heap.size,0,none⟩=some (.slice A n c)∧w'.cell? ⟨w.heap.size + 1,0,none⟩=some (.slice A' n' c')∧w'.cell? ⟨w.heap.size + 1 + 1,0,none⟩=some (.slice none 0 0)∧w'.frozen? ⟨w.heap.size + 1 + 1,0,none⟩=false∧Below w.heap.size w w'∧w.heap.size + 3≤w'.heap.size)
  (first | exact start5 HR0 | exact keep5 hbk (by assumption) | assumption)
  (first | (go_at_call 75;(with_reducible refine (trim_arg (H.out _ (below5 (by assumption)))).mono ?_);rintro e w' ⟨rfl,rfl⟩) | (go_at_call 75;(with_reducible refine (trim_arg (H'.out _ (below5 (by assumption)))).mono ?_);rintro e w' ⟨rfl,rfl⟩) | (go_at_call 74;(with_reducible refine (CF.out _ (below5 (by assumption))).mono ?_);rintro e w1 ⟨g1,rfl,hg1,hb1,hbk⟩) | (go_at_call 74;(with_reducible refine (CF'.out _ (below5 (by assumption))).mono ?_);rintro e w2 ⟨g2,rfl,hg2,hb2,hbk⟩;have hb1:=hide (hb1.out.below hbk.out hb1.out.lt)))
 have hS:=‹w2.cell? ⟨w.heap.size,0,none⟩=some (.slice A n c)∧_›
 have HS:=hide hS
 have HC1:=hide (can_own hb1.out (show dl m=(digs W32 m).length from rfl) (good_digs m) (Nat.le_refl _) (val_digs32 m))
 have HC2:=hide (can_own hb2.out (show dl m'=(digs W32 m').length from rfl) (good_digs m') (Nat.le_refl _) (val_digs32 m'))
 clear hS hbk hb1 hb2 hg1 hg2
 go_wp2_with fail
 have HG2:Hid (w.heap.size + 3≤w2.heap.size):=HS.out.2.2.2.2.2
 go_loopg [5,6] m' (fun K xv yv wr=>∃ (X Y:Nat) (A1 A2:Option Addr) (c1 c2:Nat),Hid (Y≤K)∧xv = .slice A1 (dl X) c1∧yv = .slice A2 (dl Y) c2∧Hid (Can wr wr.heap.size A1 c1 X)∧Hid (Can wr wr.heap.size A2 c2 Y)∧Hid (Nat.gcd X Y=Nat.gcd m m')∧Hid (dl X≤99999∧dl Y≤99999)∧Hid (Below (w.heap.size + 3) w2 wr))
 case atStart=>exact ⟨m,m',_,_,_,_,Nat.le_refl _,rfl,rfl,HC1,HC2,rfl,⟨HL.out,HL'.out⟩,Below.refl _ _⟩
 case round =>
  obtain ⟨X,Y,A1,A2,c1,c2,hK,rfl,rfl,hX,hY,hg,hd,hbl⟩:=hrel
  have hcr:wr.cell? ⟨w.heap.size + 1 + 1,0,none⟩=some (.slice none 0 0):=(hbl.out.cell (by show w.heap.size + 1 + 1 < _;omega)).trans HS.out.2.2.1
  have hfr:wr.frozen? ⟨w.heap.size + 1 + 1,0,none⟩=false:=(hbl.out.frozen (by show w.heap.size + 1 + 1 < _;omega)).trans HS.out.2.2.2.1
  by_cases h0:Y=0
  ·have hy0:dl Y=0:=by rw [h0];exact dl0
   have HG:Hid (Nat.gcd m m'=X):=by unfold Hid;rw [← hg.out,h0,Nat.gcd_zero_right]
   clear h0
   go_wp2_with fail
   refine bodyPost_ret (v:=.agg #[.slice A1 (dl X) c1]) (by simp [results,Tryz.results70,go_sem,hcr]) rfl ?_
   refine ⟨A1,c1,by rw [HG.out],?_,((below5 HS.out).trans (hbl.out.mono (by omega))).setCell (by simp;omega) _⟩
   rw [HG.out]
   refine ⟨hX.out.1,?_⟩
   have h1:=Rd.setBox hX.out.2 hcr (.slice A1 (dl X) c1)
   simpa [World.setCell] using h1
  ·have hy0:0 < dl Y:=by
    rcases Nat.eq_zero_or_pos (dl Y) with h | h
    ·exact absurd (dl_zero h) h0
    ·exact h
   have CD:Hid (Calls Tryz.prog 71 #[.agg #[.slice A1 (dl X) c1],.agg #[.slice A2 (dl Y) c2]] wr (DivPost wr X Y)):=by
    have h1:=hd.out
    exact Div_any (hX.out.arg (by omega)) (hY.out.arg (by omega)) (by omega) h1.1
   have H0:=hide h0
   clear h0
   go_wp2_with (go_at_call 71;(with_reducible refine CD.out.mono ?_);rintro e w4 ⟨A3,c3,A4,c4,rfl,hq,hr,hb4⟩)
   go_quiet (fail)
   go_wp2
   go_roundg (X % Y)
   case measure=>exact Nat.lt_of_lt_of_le (Nat.mod_lt _ (Nat.pos_of_ne_zero H0.out)) hK.out
   case rel =>
    have hbs:Below w4.heap.size w4 ((w4.alloc (.cells #[.slice A3 (dl (X / Y)) c3] 42)).alloc (.cells #[.slice A4 (dl (X % Y)) c4] 42)):=((Below.refl _ _).alloc (Nat.le_refl _) _).alloc (by simp) _
    refine ⟨Y,X % Y,A2,A4,c2,c4,Nat.le_refl _,rfl,rfl,?_,?_,?_,⟨hd.out.2,Nat.le_trans (digs_len_mono (by decide) (Nat.mod_le _ _)) hd.out.1⟩,?_⟩
    ·exact (((hY.out.below hb4.out).more hb4.out.size).below hbs).more hbs.size
    ·exact (hr.out.below hbs).more hbs.size
    ·unfold Hid;rw [gcd_step];exact hg.out
    ·exact below_drewN (hbl.out.trans ((hb4.out.trans (hbs.mono hb4.out.size)).mono (Nat.le_trans HG2.out hbl.out.size))) _
def Nm (W:World) (A:Option Addr) (n c m:Nat):Prop:=Hid (Arg W W.heap.size A n c m)
theorem Nm.up {W W':World} {A:Option Addr} {n c m:Nat} (h:Nm W A n c m) (hb:Hid (Below W.heap.size W W')):Nm W' A n c m:=(h.out.below hb.out).more hb.out.size
theorem Nm.al {W:World} {A:Option Addr} {n c m:Nat} (h:Nm W A n c m) (o:Obj):Nm (W.alloc o) A n c m:=h.up ((Below.refl _ _).alloc (Nat.le_refl _) o)
theorem Nm.dr {W:World} {A:Option Addr} {n c m:Nat} (h:Nm W A n c m):Nm W.drew A n c m:=h
theorem Nm.dl {W:World} {A:Option Addr} {n c m:Nat} (h:Nm W A n c m):dl m≤100000:=by
 have h1:=h.out.digs.2
 obtain ⟨_,_,_,h3,_⟩:=h.out
 omega
theorem nm_can {W:World} {A:Option Addr} {c m:Nat} (h:Can W W.heap.size A c m) (hd:dl m≤100000):Nm W A (dl m) c m:=h.arg hd
theorem nm_nil (W:World) (A:Option Addr) (c:Nat):Nm W A 0 c 0:=⟨[],rfl,Nat.zero_le _,by omega,Rd.nil,by intro x hx;simp at hx,rfl⟩
def NumR (W:World) (v:Nat) (e:Ending) (w':World):Prop:=∃ A c,e = .returned (.agg #[.slice A (dl v) c])∧Nm w' A (dl v) c v∧Hid (Below W.heap.size W w')
def BoolR (W:World) (b:Bool) (e:Ending) (w':World):Prop:=e = .returned (.bool b)∧Hid (Below W.heap.size W w')
def DivR (W:World) (m m':Nat) (e:Ending) (w':World):Prop :=
 ∃ A c A' c',e = .returned (.tuple #[.agg #[.slice A (dl (m / m')) c],.agg #[.slice A' (dl (m % m')) c'],.bool true])∧Nm w' A (dl (m / m')) c (m / m')∧Nm w' A' (dl (m % m')) c' (m % m')∧Hid (Below W.heap.size W w')
section
variable {W:World} {A A':Option Addr} {n n' c c' m m':Nat}
theorem dl_mono {a b:Nat} (h:a≤b):dl a≤dl b:=digs_len_mono (by decide) h
theorem of_h {v:Nat} (h:v≤18446744073709551615):Calls Tryz.prog 66 #[.int .u64 (v:Int)] W (NumR W v) :=
 (Of_any h).mono fun _ _ ⟨A,c,he,hc,hb⟩=>⟨A,c,he,nm_can hc (Nat.le_trans (dl_le (k:=2) (by rw [show W32 ^ 2=18446744073709551616 from rfl];omega)) (by omega)),hb⟩
theorem cmp_h {v:Int} (h:Nm W A n c m) (h':Nm W A' n' c' m') (hv:cmpI m m'=v):Calls Tryz.prog 65 #[.agg #[.slice A n c],.agg #[.slice A' n' c']] W (IntPost W v):=by
 subst hv
 exact (Cmp_any h.out h'.out).mono fun _ _ h=>h
theorem add_h {v:Nat} (h:Nm W A n c m) (h':Nm W A' n' c' m') (hv:m + m'=v) (hd:dl v≤100000):Calls Tryz.prog 46 #[.agg #[.slice A n c],.agg #[.slice A' n' c']] W (NumR W v):=by
 subst hv
 exact (Add_any h.out h'.out).mono fun _ _ ⟨A,c,he,hc,hb⟩=>⟨A,c,he,nm_can hc hd,hb⟩
theorem mul_h {v:Nat} (h:Nm W A n c m) (h':Nm W A' n' c' m') (hv:m * m'=v) (hd:dl v≤100000):Calls Tryz.prog 133 #[.agg #[.slice A n c],.agg #[.slice A' n' c']] W (NumR W v):=by
 subst hv
 exact (Mul_any h.out h'.out).mono fun _ _ ⟨A,c,he,hc,hb⟩=>⟨A,c,he,nm_can hc hd,hb⟩
theorem div_h (h:Nm W A n c m) (h':Nm W A' n' c' m') (h0:0 < m') (hd:dl m≤99999):Calls Tryz.prog 71 #[.agg #[.slice A n c],.agg #[.slice A' n' c']] W (DivR W m m') :=
 (Div_any h.out h'.out h0 hd).mono fun _ _ ⟨A1,c1,A2,c2,he,h1,h2,hb⟩=>⟨A1,c1,A2,c2,he,nm_can h1.out (Nat.le_trans (dl_mono (Nat.div_le_self _ _)) (by omega)),nm_can h2.out (Nat.le_trans (dl_mono (Nat.mod_le _ _)) (by omega)),hb⟩
theorem gcd_h {v:Nat} (h:Nm W A n c m) (h':Nm W A' n' c' m') (hv:Nat.gcd m m'=v) (hd:dl m≤99999) (hd':dl m'≤99999):Calls Tryz.prog 70 #[.agg #[.slice A n c],.agg #[.slice A' n' c']] W (NumR W v):=by
 subst hv
 refine (Gcd_any h.out h'.out hd hd').mono fun _ _ ⟨A1,c1,he,h1,hb⟩=>⟨A1,c1,he,nm_can h1.out ?_,hb⟩
 rcases Nat.eq_zero_or_pos m with h0 | h0
 ·rw [h0,Nat.gcd_zero_left];omega
 ·exact Nat.le_trans (dl_mono (Nat.le_of_dvd h0 (Nat.gcd_dvd_left _ _))) (by omega)
end
theorem bx1 {a b:World} {v:Value} {t:TypeId} (hb:Hid (Below (a.alloc (.cells #[v] t)).heap.size (a.alloc (.cells #[v] t)) b)) :
 b.cell? ⟨a.heap.size,0,none⟩=some v∧Hid (a.heap.size + 1≤b.heap.size)∧Hid (Below a.heap.size a b):=by
 have hs:=hb.out.size
 simp at hs
 exact ⟨(hb.out.cell (by show a.heap.size < _;simp)).trans (one_cell (heap_alloc_new a _)).1,hs,((Below.refl _ _).alloc (Nat.le_refl _) _).trans (hb.out.mono (by simp))⟩
def zi (b:Bool) (m:Nat):Int:=if b then -(m:Int) else (m:Int)
theorem zi_true (m:Nat):zi true m = -(m:Int):=rfl
theorem zi_false (m:Nat):zi false m=(m:Int):=rfl
theorem zi_abs (b:Bool) (m:Nat):(zi b m).natAbs=m:=by cases b <;> simp [zi]
def ZA (W:World) (b:Bool) (A:Option Addr) (n c:Nat) (z:Int):Prop:=Nm W A n c z.natAbs∧Hid (z=zi b z.natAbs)
theorem za_of {W:World} {b:Bool} {A:Option Addr} {n c m:Nat} (h:Nm W A n c m):ZA W b A n c (zi b m):=⟨by rw [zi_abs];exact h,by unfold Hid;rw [zi_abs]⟩
theorem ZA.up {W W':World} {b:Bool} {A:Option Addr} {n c:Nat} {z:Int} (h:ZA W b A n c z) (hb:Hid (Below W.heap.size W W')):ZA W' b A n c z:=⟨h.1.up hb,h.2⟩
theorem ZA.al {W:World} {b:Bool} {A:Option Addr} {n c:Nat} {z:Int} (h:ZA W b A n c z) (o:Obj):ZA (W.alloc o) b A n c z:=⟨h.1.al o,h.2⟩
theorem ZA.dr {W:World} {b:Bool} {A:Option Addr} {n c:Nat} {z:Int} (h:ZA W b A n c z):ZA W.drew b A n c z:=h
def ZR (W:World) (z:Int) (e:Ending) (w':World):Prop :=
 ∃ A c,e = .returned (.agg #[.bool (decide (z < 0)),.slice A (dl z.natAbs) c])∧ZA w' (decide (z < 0)) A (dl z.natAbs) c z∧Hid (Below W.heap.size W w')
theorem zi_dec (z:Int):z=zi (decide (z < 0)) z.natAbs:=by
 unfold zi
 by_cases h:z < 0
 ·rw [decide_eq_true h,if_pos rfl];omega
 ·rw [decide_eq_false h];simp;omega
section
variable {W:World} {A A':Option Addr} {n n' c c' m m':Nat}
theorem isZero_yes (h:Nm W A n c m) (h0:m=0):Calls Tryz.prog 104 #[.agg #[.slice A n c]] W (BoolR W true):=by
 have CC:Hid (∀ o,Calls Tryz.prog 65 #[.agg #[.slice A n c],.agg #[.slice none 0 0]] (W.alloc o) (IntPost (W.alloc o) 0)):=fun o=>cmp_h (h.al o) (nm_nil _ none 0) (cmpI_eq h0)
 clear h h0
 go_enter Tryz.func104,Tryz.ntmps104
 go_wp2_with (go_at_call 65;(with_reducible refine (CC.out _).mono ?_);rintro e w1 ⟨rfl,hbk⟩)
 go_ret
 exact ⟨rfl,(bx1 hbk).2.2⟩
theorem isZero_no (h:Nm W A n c m) (h0:0 < m):Calls Tryz.prog 104 #[.agg #[.slice A n c]] W (BoolR W false):=by
 have CC:Hid (∀ o,Calls Tryz.prog 65 #[.agg #[.slice A n c],.agg #[.slice none 0 0]] (W.alloc o) (IntPost (W.alloc o) 1)):=fun o=>cmp_h (h.al o) (nm_nil _ none 0) (cmpI_gt h0)
 clear h h0
 go_enter Tryz.func104,Tryz.ntmps104
 go_wp2_with (go_at_call 65;(with_reducible refine (CC.out _).mono ?_);rintro e w1 ⟨rfl,hbk⟩)
 go_ret
 exact ⟨rfl,(bx1 hbk).2.2⟩
def SgR (W:World) (b:Bool) (A:Option Addr) (n c:Nat) (e:Ending) (w':World):Prop:=e = .returned (.agg #[.bool b,.slice A n c])∧Hid (Below W.heap.size W w')
theorem sg1 (W:World) (v:Value) (t:TypeId) (o:Obj):((W.alloc (.cells #[v] t)).alloc o).cell? ⟨W.heap.size,0,none⟩=some v :=
 (World.cell?_alloc_lt _ _ _ (by show W.heap.size < _;simp)).trans (one_cell (heap_alloc_new W (.cells #[v] t))).1
theorem sg2 (W:World) (o:Obj) (v u:Value) (t:TypeId):((W.alloc o).alloc (.cells #[v,u] t)).cell? ⟨W.heap.size + 1,0,none⟩=some v∧((W.alloc o).alloc (.cells #[v,u] t)).cell? ⟨W.heap.size + 1,1,none⟩=some u ∧
 (∀ i,((W.alloc o).alloc (.cells #[v,u] t)).frozen? ⟨W.heap.size + 1,i,none⟩=false)∧Below W.heap.size W ((W.alloc o).alloc (.cells #[v,u] t))∧((W.alloc o).alloc (.cells #[v,u] t)).heap.size=W.heap.size + 2:=by
 have h:((W.alloc o).alloc (.cells #[v,u] t)).heap[W.heap.size + 1]? = some (.cells #[v,u] t (0,0)):=by simpa using heap_alloc_new (W.alloc o) (.cells #[v,u] t)
 refine ⟨by rw [cell_of_row _ _ 0 _ t (0,0) h];rfl,by rw [cell_of_row _ _ 1 _ t (0,0) h];rfl,fun i=>by unfold World.frozen?;rw [h];simp,((Below.refl _ _).alloc (Nat.le_refl _) _).alloc (by simp) _,by simp⟩
theorem sg3 {W w1:World} {o:Obj} {v u:Value} {t:TypeId} (hb:Hid (Below ((W.alloc o).alloc (.cells #[v,u] t)).drew.heap.size ((W.alloc o).alloc (.cells #[v,u] t)).drew w1)) :
 w1.cell? ⟨W.heap.size + 1,0,none⟩=some v∧w1.cell? ⟨W.heap.size + 1,1,none⟩=some u∧w1.frozen? ⟨W.heap.size + 1,0,none⟩=false∧w1.frozen? ⟨W.heap.size + 1,1,none⟩=false∧Hid (Below W.heap.size W w1):=by
 obtain ⟨h1,h2,h3,h4,h5⟩:=sg2 W o v u t
 have hlt:W.heap.size + 1 < ((W.alloc o).alloc (.cells #[v,u] t)).drew.heap.size:=by show _ < ((W.alloc o).alloc (.cells #[v,u] t)).heap.size;omega
 exact ⟨(hb.out.cell hlt).trans h1,(hb.out.cell hlt).trans h2,(hb.out.frozen hlt).trans (h3 0),(hb.out.frozen hlt).trans (h3 1),(h4.drew).trans (hb.out.mono (by omega))⟩
theorem signed_plus:Calls Tryz.prog 132 #[.bool false,.agg #[.slice A n c]] W (SgR W false A n c):=by
 go_enter Tryz.func132,Tryz.ntmps132
 go_wp2_with fail
 go_region_with (fail)
 all_goals
  go_wp2_with fail
  refine bodyPost_ret (v:=.agg #[.bool false,.slice A n c]) (by simp [results,Tryz.results132,go_sem]) rfl ⟨rfl,?_⟩
  exact below_drewN (((Below.refl _ _).alloc (Nat.le_refl _) _).alloc (by simp) _) 1
theorem signed_call {b:Bool} (CZ:∀ W',Below W.heap.size W W'→Calls Tryz.prog 104 #[.agg #[.slice A n c]] W' (BoolR W' b)):Calls Tryz.prog 132 #[.bool true,.agg #[.slice A n c]] W (SgR W (!b) A n c):=by
 have CC:=hide CZ
 clear CZ
 cases b
 all_goals
  go_enter Tryz.func132,Tryz.ntmps132
  go_wp2_with fail
  go_region_held3 (fun w'=>w'.cell? ⟨W.heap.size,0,none⟩=some (.slice A n c))
   (first | exact sg1 _ _ _ _ | exact (hbk.out.cell (by show W.heap.size < ((W.alloc _).alloc _).heap.size;simp;omega)).trans (sg1 _ _ _ _) | (rw [World.cell?_setCell_far _ _ _ _ (by simp),World.cell?_setCell_far _ _ _ _ (by simp)];assumption))
   (first | (go_at_call 104;(with_reducible refine (CC.out _ ((sg2 W _ _ _ _).2.2.2.1.drew)).mono ?_);rintro e w1 ⟨rfl,hbk⟩;obtain ⟨e0,e1,f0,f1,HB⟩:=sg3 hbk) | fail)
  go_wp2_with fail
 ·refine bodyPost_ret (v:=.agg #[.bool true,.slice A n c]) (by simp [results,Tryz.results132,go_sem,e0,e1]) rfl ⟨rfl,?_⟩
  exact (HB.out.setCell (by simp) _).setCell (by simp) _
 ·refine bodyPost_ret (v:=.agg #[.bool false,.slice A n c]) (by simp [results,Tryz.results132,go_sem,e0,e1]) rfl ⟨rfl,?_⟩
  exact (HB.out.setCell (by simp) _).setCell (by simp) _
end
end Go.Proofs.YtfflmmbhpchloaaGreatDoor
end
