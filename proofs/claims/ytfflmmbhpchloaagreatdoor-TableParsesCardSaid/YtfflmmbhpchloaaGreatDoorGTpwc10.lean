/- Each theorem here says its own conditions. -/
import Derived.Test.YtfflmmbhpchloaaGreatDoorLdn
set_option maxRecDepth 100000
set_option maxHeartbeats 16000000
section
open Go.RowKit
namespace Go.Proofs.YtfflmmbhpchloaaGreatDoor
def LongPost (w:World) (m m':Nat) (e:Ending) (w':World):Prop :=
 ∃ (gq gr nq nr:Nat) (Q R:List Nat),e = .returned (.tuple #[.slice (some ⟨gq,0,none⟩) nq nq,.slice (some ⟨gr,0,none⟩) nr nr])∧Hid (Blk U32 142 w' gq Q)∧Hid (nq=Q.length∧Good32 Q∧nq≤100000∧val W32 Q=m / m') ∧
  Hid (Blk U32 142 w' gr R)∧Hid (nr=R.length∧Good32 R∧nr≤100000∧val W32 R=m % m')∧Hid (w.heap.size≤gq∧w.heap.size≤gr)∧Hid (Below w.heap.size w w')
structure LongInv (X V n z j g2 g3:Nat) (wb wr:World) (l H:List Nat):Prop where
 ll:l.length=n + z + 1
 lg:Good32 l
 hl:H.length=z + 1 - j
 hg:Good32 H
 hx:X=V * (W32 ^ j * val W32 H) + val W32 (l.take (n + j))
 hv:val W32 (l.take (n + j)) < V * W32 ^ j
 b2:Blk U32 142 wr g2 l
 b3:Blk U32 142 wr g3 (List.replicate j 0 ++ H)
 bl:Below g2 wb wr
theorem long_zero {X V n z:Nat} {L:List Nat} (hl:L.length=n + z + 1) (hv:val W32 L=X) (hs:X < V * W32 ^ (z + 1)) :
 X=V * (W32 ^ (z + 1) * val W32 []) + val W32 (L.take (n + (z + 1)))∧val W32 (L.take (n + (z + 1))) < V * W32 ^ (z + 1):=by
 have e:L.take (n + (z + 1))=L:=List.take_of_length_le (by clear hs;omega)
 rw [e,hv]
 generalize W32 ^ (z + 1)=P at hs ⊢
 exact ⟨by show X=V * (P * 0) + X;rw [Nat.mul_zero,Nat.mul_zero,Nat.zero_add],hs⟩
theorem long_idx (z:Nat):Value.int .i64 (z:Int)=Value.int .i64 (((z + 1:Nat):Int) - 1):=by go_num
theorem divideLong_any {A A':Option Addr} {c c' m m':Nat} {w:World} (h:Can w w.heap.size A c m) (h':Can w w.heap.size A' c' m') (hm:m'≤m) (h2:2≤dl m') (hlim:dl m≤99999) :
 Calls Tryz.prog 103 #[.slice A (dl m) c,.slice A' (dl m') c'] w (LongPost w m m'):=by
 have hmono:dl m'≤dl m:=digs_len_mono (b:=W32) (by decide) hm
 obtain ⟨n,hn⟩:∃ n,n=dl m':=⟨_,rfl⟩
 obtain ⟨N,hN⟩:∃ N,N=dl m:=⟨_,rfl⟩
 obtain ⟨i1,hi1⟩:∃ i1,i1 + 1=n:=⟨n - 1,by omega⟩
 obtain ⟨i2,hi2⟩:∃ i2,i2 + 2=n:=⟨n - 2,by omega⟩
 obtain ⟨z,hz⟩:∃ z,N=n + z:=⟨N - n,by omega⟩
 obtain ⟨t,ht,ht0,htW,hlo,hhi⟩:=top_word hn.symm hi1
 obtain ⟨ad,rfl,hab,hct⟩:=h'.2.at_ (k:=i1) (show i1 < (digs W32 m').length by unfold dl at hn;omega)
 replace hct:w.cell? (ad.add i1)=some (.int .u32 (t:Int)):=by
  have e:=List.getElem?_eq_getElem (show i1 < (digs W32 m').length by unfold dl at hn;omega)
  rw [ht] at e
  injection e with e
  rw [e];exact hct
 have R1:=hide h'.2
 have R2:=hide h.2
 have C1:=hide h'.1
 rw [← hn] at C1
 rw [← hn] at h2
 rw [← hN] at hlim hmono ⊢
 rw [← hn] at hmono ⊢
 have CZ:=hide (fun W=>LeadingZeros32_any W ht0 htW)
 have CL1:Hid (∀ s:Nat,s≤31→Calls Tryz.prog 148 #[.slice (some ad) n c',.int .i64 (s:Int)] w (ShlPost w n s m')):=fun s hs=>by
  have:=shiftLeft_any (c:=c') (sh:=s) (show n=(digs W32 m').length from hn) R1.out (good_digs m') (by omega) hs
  rwa [val_digs32] at this
 have CL2:Hid (∀ (W:World) (s:Nat),Below w.heap.size w W→s≤31→Calls Tryz.prog 148 #[.slice A N c,.int .i64 (s:Int)] W (ShlPost W N s m)):=fun W s hb hs=>by
  have:=shiftLeft_any (c:=c) (sh:=s) (show N=(digs W32 m).length from hN) ((R2.out.below hb).more hb.size) (good_digs m) (by omega) hs
  rwa [val_digs32] at this
 have HN:=hide hn
 have HNN:=hide hN
 have HZ:=hide hz
 have HI1:=hide hi1
 have HI2:=hide hi2
 have HLO:=hide hlo
 have HHI:=hide hhi
 have HM:=hide hm
 have HPW:=hide (Nat.le_trans (Nat.le_mul_of_pos_left (W32 ^ i1) ht0) hlo)
 have hn1:(n:Int) - 1=(i1:Int):=by omega
 have hzz:(N:Int) - (n:Int)=(z:Int):=by omega
 clear h h' hm hn hN hlo hhi ht ht0 htW hab hz
 go_enter Tryz.func103,Tryz.ntmps103
 go_wp2_with (first | (go_at_call 147;go_must (refine (CZ.out _).mono ?_);rintro e w' ⟨⟨s,rfl,hs,HS⟩,rfl⟩) | (go_at_call 148;(with_reducible refine (CL1.out s hs).mono ?_);rintro e w1 ⟨g1,L1,rfl,hg1,hb1,hl1,hgd1,hv1,hbel1⟩) | (go_at_call 148;(with_reducible refine (CL2.out w1 s hbel1.out hs).mono ?_);rintro e w2 ⟨g2,L2,rfl,hg2,hb2,hl2,hgd2,hv2,hbel2⟩) | (at_make;go_must (refine wpList_words rfl _ _ rfl (z + 1) rfl rfl (by omega) ?_;intro g3 w3 hg3 hb3 hbel3)))
 obtain ⟨V,hV⟩:∃ V,V=m' * 2 ^ s:=⟨_,rfl⟩
 obtain ⟨X,hX⟩:∃ X,X=m * 2 ^ s:=⟨_,rfl⟩
 rw [← hV] at hv1
 rw [← hX] at hv2
 have HNL:=hide (norm_list (R:=L1) hl1.out hgd1.out (by rw [hv1.out,hV]) HI1.out HLO.out HHI.out HS.out.1 HS.out.2 hs)
 rw [← hV] at HNL
 have HV:=hide hV
 have HX:=hide hX
 have hg12:g1 < g2:=Nat.lt_of_lt_of_le hb1.out.lt hg2.out
 have hg23:g2 < g3:=by rw [hg3.out];exact hb2.out.lt
 have hwg:w.heap.size≤g1:=hg1.out
 have HB13:Hid (Blk U32 142 w3 g1 L1):=(hb1.out.below hbel2.out hb1.out.lt).below hbel3 (Nat.lt_of_lt_of_le hb1.out.lt hbel2.out.size)
 have HB23:Hid (Blk U32 142 w3 g2 L2):=hb2.out.below hbel3 hb2.out.lt
 have HW3:Hid (Below w.heap.size w w3):=(hbel1.out.trans (hbel2.out.mono hbel1.out.size)).trans (hbel3.mono (Nat.le_trans hbel1.out.size hbel2.out.size))
 have HST:Hid (X < V * W32 ^ (z + 1)):=by
  unfold Hid
  have h1:m < W32 ^ N:=by rw [HNN.out];exact lt_pow_digs (by decide) m
  have h2:=long_start (s:=s) h1 HPW.out (show i1≤N by have:=HI1.out;omega)
  rw [← hX,← hV,show N - i1=z + 1 by have:=HI1.out;have:=HZ.out;omega] at h2
  exact h2
 have hnN:n + z≤N:=by have:=HZ.out;omega
 clear hV hX hg3 hbel3 hb1 hb2 hbel1 hbel2 hgd1 hl1 hv1 hg1 hg2
 clear hn1 hzz
 go_loopw [9] (fun iv wr=>∃ (j:Nat) (l H:List Nat),j≤z + 1∧iv = .int .i64 ((j:Int) - 1)∧Hid (LongInv X V n z j g2 g3 w3 wr l H))
  (fun iv _=>(intOf iv + 1).toNat)
 case atStart =>
  obtain ⟨e1,e2⟩:=long_zero (X:=X) (V:=V) (n:=n) (z:=z) (L:=L2) (by rw [hl2.out,HZ.out]) hv2.out HST.out
  have hfin:LongInv X V n z (z + 1) g2 g3 w3 w3 L2 []:=⟨by rw [hl2.out,HZ.out],hgd2.out,by rw [Nat.sub_self];rfl,(by intro x hx;simp at hx),e1,e2,HB23.out,by rw [List.append_nil];exact hb3.out,Below.refl _ _⟩
  exact ⟨z + 1,L2,[],Nat.le_refl _,long_idx z,hfin⟩
 case round =>
  obtain ⟨j,l,H,hj,rfl,HI⟩:=hrel
  by_cases h0:j=0
  ·subst h0
   have hll:=HI.out.ll
   have hbR:Hid (Rd U32 wr wr.heap.size (some ⟨g2,0,none⟩) (l.take n)):=(HI.out.b2.rd0 HI.out.b2.lt).take n
   have CR:=hide (shiftRight_any (n:=n) (c:=N + 1) (sh:=s) (show n=(l.take n).length by rw [List.length_take];omega) hbR.out (good_take HI.out.lg n) (by omega) hs)
   clear hll
   go_wp2_with (go_at_call 150;(with_reducible refine CR.out.mono ?_);rintro e w4 ⟨g4,L4,rfl,hg4,hb4,hl4,hgd4,hv4,hbel4⟩)
   have hll:=HI.out.ll
   have hx:=HI.out.hx
   have hv:=HI.out.hv
   rw [Nat.pow_zero,Nat.one_mul,Nat.add_zero] at hx
   rw [Nat.pow_zero,Nat.mul_one,Nat.add_zero] at hv
   obtain ⟨q1,q2⟩:=long_end hx hv HX.out HV.out
   have hb3':Blk U32 142 wr g3 H:=by simpa using HI.out.b3
   have hhl:=HI.out.hl
   refine bodyPost_ret (v:=.tuple #[.slice (some ⟨g3,0,none⟩) (z + 1) (z + 1),.slice (some ⟨g4,0,none⟩) n n]) (by simp [results,Tryz.results103,go_sem]) rfl ?_
   refine ⟨g3,g4,z + 1,n,H,L4,rfl,hb3'.below hbel4.out hb3'.lt,⟨by omega,HI.out.hg,by omega,q1⟩,hb4,⟨hl4.out.symm,hgd4.out,by omega,hv4.out.trans q2⟩,⟨by omega,Nat.le_trans (Nat.le_trans HW3.out.size HI.out.bl.size) hg4.out⟩,?_⟩
   exact (HW3.out.trans (HI.out.bl.mono (by omega))).trans (hbel4.out.mono (Nat.le_trans HW3.out.size HI.out.bl.size))
  ·obtain ⟨i,rfl⟩:∃ i,j=i + 1:=⟨j - 1,by omega⟩
   obtain ⟨U,hU⟩:∃ U,U=val W32 ((l.drop i).take (n + 1)):=⟨_,rfl⟩
   have hll:=HI.out.ll
   have hx:=HI.out.hx
   have hv:=HI.out.hv
   rw [long_take (by omega),← hU,Nat.pow_succ] at hx hv
   obtain ⟨s1,s2,s3⟩:=long_step hx hv (val_take_lt HI.out.lg i) (by
    rcases Nat.eq_zero_or_pos V with h | h
    ·rw [h,Nat.zero_mul] at hv;omega
    ·exact h)
   have hr:Rd U32 wr g2 (some ⟨g1,0,none⟩) (L1.take n):=((HB13.out.below HI.out.bl hg12).rd0 hg12).take n
   have CD:Hid (Calls Tryz.prog 149 #[.slice (some ⟨g2,i,none⟩) (i + n + 1 - i) (N + 1 - i),.slice (some ⟨g1,0,none⟩) n (n + 1)] wr (StepPost wr g2 i n U V l)):=by
    rw [show i + n + 1 - i=n + 1 by omega]
    exact divideStep_any (c:=N + 1 - i) (c':=n + 1) (by omega) HI1.out HI2.out (by omega) HI.out.b2 hr (Nat.le_refl _) HNL.out.2.1 (show i + n < l.length by omega) (by omega) HI.out.lg HNL.out.2.2.1 hU.symm HNL.out.1 s1 HNL.out.2.2.2
   have HLL:=hide hll
   have HS2:=hide s2
   have HS3:=hide s3
   clear hll hx hv s1 s2 s3 hU hr
   go_wp2_with (go_at_call 149;(with_reducible refine CD.out.mono ?_);rintro e w4 ⟨seg,rfl,hq,hsl,hsg,hsv,hb4,hg4⟩;have hc3:w4.cell? ⟨g3,i,none⟩=some (.int .u32 0):=(HI.out.b3.grown hg4.out (by intro e;injection e with e;omega)).cell long_get;have hf3:=(HI.out.b3.grown hg4.out (by intro e;injection e with e;omega)).frozen i)
   go_roundw
   case rel =>
    have hll:=HLL.out
    have hhl:=HI.out.hl
    refine ⟨i,_,U / V :: H,by omega,by go_num,⟨?_,?_,?_,?_,?_,?_,hb4.out.far (p:=⟨g3,i,none⟩) (by show g2 ≠ g3;omega) _,?_,?_⟩⟩
    ·simp [hsl.out];omega
    ·exact good_app (good_take HI.out.lg _) (good_app hsg.out (good_drop HI.out.lg _))
    ·rw [List.length_cons,hhl];omega
    ·intro x hx
     rcases List.mem_cons.1 hx with rfl | hx
     ·exact hq.out
     ·exact HI.out.hg x hx
    ·rw [long_left (by omega) hsl.out,hsv.out]
     exact HS2.out
    ·rw [long_left (by omega) hsl.out,hsv.out]
     exact HS3.out
    ·have h1:=(HI.out.b3.grown hg4.out (by intro e;injection e with e;omega)).set_ i (U / V)
     rw [long_set] at h1
     exact h1
    ·exact (HI.out.bl.trans (grown_below hg4.out (Nat.le_refl _) HI.out.b2.lt)).setCell (by show g2≤g3;omega) _
   case measure=>simp [intOf]
theorem Mul_any {A A':Option Addr} {n n' c c' m m':Nat} {w:World} (h:Arg w w.heap.size A n c m) (h':Arg w w.heap.size A' n' c' m') :
 Calls Tryz.prog 133 #[.agg #[.slice A n c],.agg #[.slice A' n' c']] w (NumPost w (m * m')):=by
 have H:Hid (∀ o1 o2 v t k,Arg ((((w.alloc o1).alloc o2).alloc (.cells #[v] t)).drewN k) w.heap.size A n c m):=fun o1 o2 v t k=>h.below (pre3 w o1 o2 v t k).1
 have H':Hid (∀ o1 o2 v t k,Arg ((((w.alloc o1).alloc o2).alloc (.cells #[v] t)).drewN k) w.heap.size A' n' c' m'):=fun o1 o2 v t k=>h'.below (pre3 w o1 o2 v t k).1
 have hl:dl m≤100000:=by have:=h.digs.2;obtain ⟨_,_,_,h3,_⟩:=h;omega
 have hl':dl m'≤100000:=by have:=h'.digs.2;obtain ⟨_,_,_,h3,_⟩:=h';omega
 have HX:=hide h.digs.1
 have HY:=hide h'.digs.1
 clear h h'
 go_enter Tryz.func133,Tryz.ntmps133
 go_wp2_with fail
 go_quiet ((go_at_call 75;first | exact quiet_left (trim_arg (H.out _ _ _ _ _)) | exact quiet_left (trim_arg (H'.out _ _ _ _ _))))
 go_wp2_with (first | (at_make;go_must (refine wpList_words rfl _ _ rfl (dl m + dl m') rfl rfl (by omega) ?_;intro g w1 hg hb1 hbel)))
 have HG:Hid (g=w.heap.size + 3):=by unfold Hid;rw [hg.out];exact (pre3 w _ _ _ _ _).2.1
 have hB:w.heap.size≤g:=by have:=HG.out;omega
 obtain ⟨hw1,hres,hsz1⟩:=after3 hbel
 have HRES:=hide hres
 have HW1:=hide hw1
 clear hbel hres hg hw1 H H'
 go_loopw [24] (fun iv wr=>∃ i:Nat,∃ seg:List Nat,i≤dl m∧iv = .int .i64 (i:Int)∧Hid (seg.length=i + dl m')∧Hid (Good32 seg)∧Hid (val W32 seg=val W32 ((digs W32 m).take i) * m') ∧
  Hid (Blk U32 142 wr g (seg ++ List.replicate (dl m - i) 0))∧Hid (w1.grownBy wr (some g)))
  (fun iv _=>dl m - (intOf iv).toNat)
 case atStart=>exact ⟨0,List.replicate (dl m') 0,Nat.zero_le _,rfl,by simp [Hid],good_zeros (l:=[]) (by intro x hx;simp at hx) _,by simp [Hid,val,val_zeros],by have:=hb1.out;rw [Nat.add_comm,← List.replicate_append_replicate] at this;exact this,World.grownBy.refl _ _⟩
 case round =>
  obtain ⟨i,seg,hi,rfl,hsl,hsg,hval,hblk,hgr⟩:=hrel
  by_cases hlt:i < dl m
  ·have hix:i < (digs W32 m).length:=hlt
   have HXR:=hide ((HX.out.below HW1.out).2.grown hgr.out hB)
   have HYR:=hide ((HY.out.below HW1.out).2.grown hgr.out hB)
   obtain ⟨ad,rfl,hab,hcx⟩:=HXR.out.at_ hix
   obtain ⟨x,hxe⟩:∃ x,x=(digs W32 m)[i]:=⟨_,rfl⟩
   rw [← hxe] at hcx
   have RX:=hide (val_take_succ W32 (L:=digs W32 m) (i:=i) (x:=x) (by rw [hxe];exact List.getElem?_eq_getElem hix))
   have hxW:Hid (x < W32):=by unfold Hid;rw [hxe];exact good_digs m _ (List.getElem_mem _)
   obtain ⟨z,hz⟩:∃ z,dl m - i=z + 1:=⟨dl m - i - 1,by omega⟩
   rw [hz] at hblk
   have HZ:=hide hz
   unfold U32 at hcx
   clear hxe hix hz
   by_cases hx0:x=0
   ·subst hx0
    go_wp2
    go_roundw
    case rel =>
     refine ⟨i + 1,seg ++ [0],by omega,by go_num,by unfold Hid;rw [List.length_append,hsl.out];simp;omega,good_snoc hsg.out (by decide),by unfold Hid;rw [val_snoc,hval.out,RX.out];simp,?_,hgr⟩
     have hb:=hblk.out
     rw [List.replicate_succ] at hb
     rw [show dl m - (i + 1)=z by have:=HZ.out;omega]
     simpa [Hid] using hb
    case measure=>simp [intOf];omega
   ·have hx1:((x:Int) == 0)=false:=by simp;omega
    clear hx0
    have hlen1:i + dl m'≤(seg ++ List.replicate (z + 1) 0).length:=by rw [List.length_append,hsl.out,List.length_replicate];omega
    have hlen2:(seg ++ List.replicate (z + 1) 0).length≤1000000:=by rw [List.length_append,hsl.out,List.length_replicate];have:=HZ.out;omega
    go_wp2_with (first | (go_at_call 187;go_must (refine (addMultiple_any (k:=dl m') hblk.out HYR.out hB rfl hlen1 (good_zeros hsg.out _) (good_digs m') hxW.out hlen2).mono ?_);rintro e w2 ⟨seg2,c2,rfl,hs2,hg2,hc2,hv2,hb2,hgr2⟩;have hc:w2.cell? ⟨g,i + dl m',none⟩=some (.int .u32 0):=hb2.cell (mul_cell hsl.out hs2.out);have hf:=hb2.frozen (i + dl m')))
    go_roundw
    case rel =>
     refine ⟨i + 1,seg.take i ++ (seg2 ++ [c2]),by omega,by go_num,by unfold Hid;rw [List.length_append,List.length_append,hs2.out,List.length_take,hsl.out];simp;omega,good_app (good_take hsg.out _) (good_snoc hg2.out hc2.out),?_,?_,?_⟩
     ·unfold Hid
      rw [RX.out]
      exact mul_round hsl.out hs2.out hval.out (by rw [val_digs32] at hv2;exact hv2.out)
     ·have hb:=hb2.set_ (i + dl m') c2
      rw [mul_list hsl.out hs2.out] at hb
      rw [show dl m - (i + 1)=z by have:=HZ.out;omega]
      exact hb
     ·exact grown_set (grown_trans hgr.out hgr2) _ _
    case measure=>simp [intOf];omega
  ·obtain rfl:i=dl m:=by omega
   have hr2:=(one_cell ((hgr.out.block _ (by omega) (by intro e;injection e with e;have:=HG.out;omega)).trans HRES.out))
   obtain ⟨hr3,hr4⟩:=hr2
   have hlz:seg ++ List.replicate (dl m - dl m) 0=seg:=by simp
   rw [hlz] at hblk
   have HV:Hid (val W32 seg=m * m'):=by unfold Hid;rw [hval.out,List.take_of_length_le (show (digs W32 m).length≤dl m from Nat.le_refl _),val_digs32]
   clear hlz
   go_wp2_with (first | (go_at_call 75;go_must (refine (trim_own hblk.out hsl.out.symm hsg.out (by omega) (by omega) HV.out).mono ?_);rintro e w2 ⟨rfl,rfl⟩))
   refine bodyPost_ret (v:=.agg #[.slice (some ⟨g,0,none⟩) (dl (m * m')) (dl m + dl m')]) (by simp [results,Tryz.results133,go_sem,hr3]) rfl ?_
   have hne:g ≠ w.heap.size + 1 + 1:=by have:=HG.out;omega
   exact ⟨_,_,rfl,can_own (hblk.out.far (p:=⟨w.heap.size + 1 + 1,0,none⟩) hne _) hsl.out.symm hsg.out (Nat.le_refl _) HV.out,(HW1.out.trans (grown_below hgr.out hB hb1.out.lt)).setCell (by simp;omega) _⟩
theorem Add_core {A A':Option Addr} {n n' c c' m m':Nat} {w:World} (h:Arg w w.heap.size A n c m) (h':Arg w w.heap.size A' n' c' m') (hle:dl m'≤dl m) :
 (Calls Tryz.prog 46 #[.agg #[.slice A n c],.agg #[.slice A' n' c']] w (NumPost w (m + m'))) ∧
 (dl m' < dl m→Calls Tryz.prog 46 #[.agg #[.slice A' n' c'],.agg #[.slice A n c]] w (NumPost w (m + m'))):=by
 have H:Hid (∀ o1 o2 v t k,Arg ((((w.alloc o1).alloc o2).alloc (.cells #[v] t)).drewN k) w.heap.size A n c m):=fun o1 o2 v t k=>h.below (pre3 w o1 o2 v t k).1
 have H':Hid (∀ o1 o2 v t k,Arg ((((w.alloc o1).alloc o2).alloc (.cells #[v] t)).drewN k) w.heap.size A' n' c' m'):=fun o1 o2 v t k=>h'.below (pre3 w o1 o2 v t k).1
 have hl:dl m≤100000:=by have:=h.digs.2;obtain ⟨_,_,_,h3,_⟩:=h;omega
 have HX:=hide h.digs.1
 have HY:=hide h'.digs.1
 clear h h'
 refine ⟨?_,fun hlt=>?_⟩
 all_goals
  go_enter Tryz.func46,Tryz.ntmps46
  go_wp2_with fail
  go_quiet ((go_at_call 75;first | exact quiet_left (trim_arg (H.out _ _ _ _ _)) | exact quiet_left (trim_arg (H'.out _ _ _ _ _))))
  go_wp2_with (first | (at_make;go_must (refine wpList_words rfl _ _ rfl (dl m + 1) rfl rfl (by omega) ?_;intro g w1 hg hb1 hbel)))
  have HG:Hid (g=w.heap.size + 3):=by unfold Hid;rw [hg.out];exact (pre3 w _ _ _ _ _).2.1
  have hB:w.heap.size≤g:=by have:=HG.out;omega
  obtain ⟨hw1,hres,hsz1⟩:=after3 hbel
  have HRES:=hide hres
  have HW1:=hide hw1
  clear hbel hres hg hw1 H H'
  go_loopw [8,30] (fun cv iv wr=>∃ i cr:Nat,∃ seg:List Nat,i≤dl m∧cr≤1∧cv = .int .u64 (cr:Int)∧iv = .int .i64 (i:Int)∧Hid (seg.length=i)∧Hid (Good32 seg)∧Hid (val W32 seg + W32 ^ i * cr=val W32 ((digs W32 m).take i) + val W32 ((digs W32 m').take i)) ∧
   Hid (Blk U32 142 wr g (seg ++ List.replicate (dl m + 1 - i) 0))∧Hid (w1.grownBy wr (some g)))
   (fun _ iv _=>dl m - (intOf iv).toNat)
  case atStart=>exact ⟨0,0,[],Nat.zero_le _,by omega,rfl,rfl,rfl,by intro x hx;simp at hx,by simp [Hid,val],hb1,World.grownBy.refl _ _⟩
  case round =>
   obtain ⟨i,cr,seg,hi,hcr,rfl,rfl,hsl,hsg,hval,hblk,hgr⟩:=hrel
   by_cases hlt:i < dl m
   ·have hix:i < (digs W32 m).length:=hlt
    have HXR:=hide ((HX.out.below HW1.out).2.grown hgr.out hB)
    have HYR:=hide ((HY.out.below HW1.out).2.grown hgr.out hB)
    obtain ⟨ad,rfl,hab,hcx⟩:=HXR.out.at_ hix
    obtain ⟨x,hxe⟩:∃ x,x=(digs W32 m)[i]:=⟨_,rfl⟩
    rw [← hxe] at hcx
    have RX:=hide (val_take_succ W32 (L:=digs W32 m) (i:=i) (x:=x) (by rw [hxe];exact List.getElem?_eq_getElem hix))
    have hxW:x≤4294967295:=word_le (by rw [hxe];exact good_digs m _ (List.getElem_mem _))
    obtain ⟨z,hz⟩:∃ z,dl m + 1 - i=z + 1:=⟨dl m - i,by omega⟩
    rw [hz] at hblk
    have HZ:=hide hz
    have hcs:wr.cell? ⟨g,i,none⟩=some (.int .u32 0):=hblk.out.cell (get_zeros hsl.out)
    have hfz:=hblk.out.frozen i
    unfold U32 at hcx
    clear hxe hix hz
    by_cases hs:i < dl m'
    ·have hiy:i < (digs W32 m').length:=hs
     obtain ⟨ad',rfl,hab',hcy⟩:=HYR.out.at_ hiy
     obtain ⟨y,hye⟩:∃ x,x=(digs W32 m')[i]:=⟨_,rfl⟩
     rw [← hye] at hcy
     have RY:=hide (val_take_succ W32 (L:=digs W32 m') (i:=i) (x:=y) (by rw [hye];exact List.getElem?_eq_getElem hiy))
     have hyW:y≤4294967295:=word_le (by rw [hye];exact good_digs m' _ (List.getElem_mem _))
     unfold U32 at hcy
     clear hye hiy
     have RM:=hide (add_math (W:=W32) hval.out rfl (lohi (cr + (x + y))))
     go_wp2
     go_roundw
     case rel =>
      refine ⟨i + 1,(cr + x + y) / W32,seg ++ [(cr + x + y) % W32],by omega,by rw [W32_eq];omega,rfl,by go_num,by unfold Hid;simp [hsl.out],good_snoc hsg.out (lo_lt _),?_,?_,?_⟩
      ·unfold Hid
       rw [val_snoc,hsl.out,Nat.pow_succ,RX.out,RY.out,Nat.add_assoc cr x y,RM.out,Nat.mul_add]
       omega
      ·have hb:=hblk.out.set_ i ((cr + x + y) % W32)
       rw [set_zeros hsl.out] at hb
       rw [show dl m + 1 - (i + 1)=z by have:=HZ.out;omega]
       exact hb
      ·exact grown_set hgr.out _ _
     case measure=>simp [intOf];omega
    ·have RY:=hide (val_take_more W32 (L:=digs W32 m') (i:=i) (show dl m'≤i by omega))
     have RM:=hide (add_math (W:=W32) hval.out rfl (lohi (cr + x)))
     go_wp2
     go_roundw
     case rel =>
      refine ⟨i + 1,(cr + x) / W32,seg ++ [(cr + x) % W32],by omega,by rw [W32_eq];omega,rfl,by go_num,by unfold Hid;simp [hsl.out],good_snoc hsg.out (lo_lt _),?_,?_,?_⟩
      ·unfold Hid
       rw [val_snoc,hsl.out,Nat.pow_succ,RX.out,RY.out,RM.out]
       omega
      ·have hb:=hblk.out.set_ i ((cr + x) % W32)
       rw [set_zeros hsl.out] at hb
       rw [show dl m + 1 - (i + 1)=z by have:=HZ.out;omega]
       exact hb
      ·exact grown_set hgr.out _ _
     case measure=>simp [intOf];omega
   ·obtain rfl:i=dl m:=by omega
    obtain ⟨hr3,hr4⟩:=one_cell ((hgr.out.block _ (by omega) (by intro e;injection e with e;have:=HG.out;omega)).trans HRES.out)
    have hlz:seg ++ List.replicate (dl m + 1 - dl m) 0=seg ++ List.replicate (0 + 1) 0:=by rw [show dl m + 1 - dl m=0 + 1 by omega]
    rw [hlz] at hblk
    have hcs:wr.cell? ⟨g,dl m,none⟩=some (.int .u32 0):=hblk.out.cell (get_zeros hsl.out)
    have hfz:=hblk.out.frozen (dl m)
    have hb:Blk U32 142 (wr.setCell ⟨g,dl m,none⟩ (.int .u32 (cr:Int))) g _:=hblk.out.set_ (dl m) cr
    rw [set_zeros hsl.out,List.replicate_zero,List.append_nil] at hb
    have HB:=hide hb
    have hne:w.heap.size + 2 ≠ g:=by have:=HG.out;omega
    have hr5:(wr.setCell ⟨g,dl m,none⟩ (.int .u32 (cr:Int))).cell? ⟨w.heap.size + 2,0,none⟩=some (.slice none 0 0):=(World.cell?_setCell_other wr _ _ _ (by intro e;injection e with e;exact hne e.symm)).trans hr3
    have hr6:(wr.setCell ⟨g,dl m,none⟩ (.int .u32 (cr:Int))).frozen? ⟨w.heap.size + 2,0,none⟩=false:=by rw [World.frozen?_setCell];exact hr4
    have HL:Hid (dl m + 1=(seg ++ [cr]).length):=by unfold Hid;simp [hsl.out]
    have HGD:=hide (good_snoc hsg.out (show cr < W32 by rw [W32_eq];omega))
    have HV:Hid (val W32 (seg ++ [cr])=m + m'):=by
     unfold Hid
     rw [val_snoc,hsl.out,hval.out,List.take_of_length_le (show (digs W32 m).length≤dl m from Nat.le_refl _),List.take_of_length_le (show (digs W32 m').length≤dl m from hle),val_digs32,val_digs32]
    clear hlz hb
    go_wp2_with (first | (go_at_call 75;go_must (refine (trim_own HB.out HL.out HGD.out (by omega) (by omega) HV.out).mono ?_);rintro e w2 ⟨rfl,rfl⟩))
    refine bodyPost_ret (v:=.agg #[.slice (some ⟨g,0,none⟩) (dl (m + m')) (dl m + 1)]) (by simp [results,Tryz.results46,go_sem,hr5]) rfl ?_
    exact ⟨_,_,rfl,can_own (HB.out.far (p:=⟨w.heap.size + 1 + 1,0,none⟩) (by simp;omega) _) HL.out HGD.out (Nat.le_refl _) HV.out,((HW1.out.trans (grown_below hgr.out hB hb1.out.lt)).setCell (p:=⟨g,dl m,none⟩) hB _).setCell (by simp;omega) _⟩
theorem Add_any {A A':Option Addr} {n n' c c' m m':Nat} {w:World} (h:Arg w w.heap.size A n c m) (h':Arg w w.heap.size A' n' c' m') :
 Calls Tryz.prog 46 #[.agg #[.slice A n c],.agg #[.slice A' n' c']] w (NumPost w (m + m')):=by
 rcases Nat.lt_or_ge (dl m) (dl m') with hlt | hge
 ·have:=(Add_core h' h (by omega)).2 hlt
  rwa [Nat.add_comm] at this
 ·exact (Add_core h h' hge).1
theorem Of_any {n:Nat} {w:World} (hn:n≤18446744073709551615) :
 Calls Tryz.prog 66 #[.int .u64 (n:Int)] w (NumPost w n):=by
 have HN:=hide hn
 clear hn
 go_enter Tryz.func66,Tryz.ntmps66
 have hblk:Hid (∀ W:World,Blk U32 142 (W.alloc (.cells #[.int .u32 ((n:Int) % 4294967296),.int .u32 ((n:Int) / 4294967296 % 4294967296)] 142)) W.heap.size [n % W32,n / W32 % W32]):=fun W=>heap_alloc_new W _
 have HV:Hid (val W32 [n % W32,n / W32 % W32]=n):=by unfold Hid;have:=HN.out;simp only [val];rw [W32_eq];omega
 have HG:Hid (Good32 [n % W32,n / W32 % W32]):=by
  intro x hx;simp at hx;rcases hx with rfl | rfl <;> exact Nat.mod_lt _ (by decide)
 go_wp2_with (first | (go_at_call 75;go_must (refine (trim_own (n:=2) (by simpa using hblk.out (w.alloc (.cells #[.slice none 0 0] 42))) rfl HG.out (by omega) (by omega) HV.out).mono ?_);rintro e w2 ⟨rfl,rfl⟩))
 refine bodyPost_ret (v:=.agg #[.slice (some ⟨w.heap.size + 1,0,none⟩) (dl n) 2]) (by simp [results,Tryz.results66,go_sem]) rfl ?_
 exact ⟨_,_,rfl,can_own (n:=2) (by simpa using hblk.out (w.alloc (.cells #[.slice (some ⟨w.heap.size + 1,0,none⟩) (dl n) 2] 42))) rfl HG.out (by omega) HV.out,((Below.refl _ _).alloc (Nat.le_refl _) _).alloc (by simp) _⟩
theorem dl_zero {m:Nat} (h:dl m=0):m=0:=(digs_len_pos (by decide)).1 h
theorem digs_one {m:Nat} (h:dl m=1):digs W32 m=[m]∧m < W32:=by
 have h0:0 < m:=by
  rcases Nat.eq_zero_or_pos m with rfl | h1
  ·unfold dl at h;rw [digs_zero] at h;simp at h
  ·exact h1
 have h2:m < W32:=by have:=lt_pow_digs (b:=W32) (by decide) m;unfold dl at h;rw [h] at this;simpa using this
 refine ⟨?_,h2⟩
 rw [digs_pos (by decide) h0,Nat.div_eq_of_lt h2,digs_zero,Nat.mod_eq_of_lt h2]
def DivWordPost (w:World) (g k d:Nat) (L:List Nat) (e:Ending) (w':World):Prop :=
 ∃ (q:List Nat) (rest:Nat),e = .returned (.int .u32 (rest:Int))∧Hid (q.length=k)∧Hid (Good32 q)∧rest < d∧Hid (val W32 (L.take k)=val W32 q * d + rest)∧Hid (Blk U32 142 w' g (q ++ L.drop k))∧w.grownBy w' (some g)
theorem divw_math {vq d rest t q r x v W:Nat} (h:v=vq * d + rest) (ht:t=rest * W + x) (hq:r + d * q=t):x + W * v=(q + W * vq) * d + r:=by
 rw [h,Nat.mul_add,Nat.add_mul,Nat.mul_assoc W vq d]
 have:W * rest=rest * W:=Nat.mul_comm _ _
 have:d * q=q * d:=Nat.mul_comm _ _
 omega
theorem divw_lt {d rest t x W:Nat} (hr:rest < d) (ht:t=rest * W + x) (hx:x < W):t / d < W:=by
 rw [Nat.div_lt_iff_lt_mul (by omega),ht]
 have h1:(rest + 1) * W≤d * W:=Nat.mul_le_mul_right _ hr
 rw [Nat.add_mul,Nat.one_mul] at h1
 rw [Nat.mul_comm W d];omega
theorem down_list {L D:List Nat} {i x v:Nat} (h:L[i]? = some x):(L.take (i + 1) ++ D).set i v=L.take i ++ (v :: D):=by
 have hi:i < L.length:=by
  rcases Nat.lt_or_ge i L.length with h1 | h1
  ·exact h1
  ·rw [List.getElem?_eq_none h1] at h;cases h
 have hl:(L.take i).length=i:=by rw [List.length_take];omega
 rw [List.take_succ_eq_append_getElem hi,List.append_assoc,List.set_append,if_neg (by omega),hl,Nat.sub_self]
 rfl
theorem down_drop {L:List Nat} {i k x:Nat} (h:L[i]? = some x) (hk:i < k):(L.take k).drop i=x :: (L.take k).drop (i + 1):=by
 have hi:i < L.length:=by
  rcases Nat.lt_or_ge i L.length with h1 | h1
  ·exact h1
  ·rw [List.getElem?_eq_none h1] at h;cases h
 rw [List.getElem?_eq_getElem hi] at h
 injection h with h
 rw [List.drop_eq_getElem_cons (by rw [List.length_take];omega),List.getElem_take,h]
theorem quo_word {t d:Nat} (h:t / d < W32):IntKind.u64.wrap ((t:Int) / (d:Int)) % 4294967296=((t / d:Nat):Int):=by
 rw [W32_eq] at h
 rw [← Int.natCast_ediv]
 generalize t / d=q at h ⊢
 rw [u64_nat (by omega)];omega
theorem divideByWord_any {g k c d:Nat} {L:List Nat} {w:World} (hb:Blk U32 142 w g L) (hk:k≤L.length) (hL:Good32 L) (hlim:k≤1000000) (hd:d≤4294967295) (hd0:1≤d) :
 Calls Tryz.prog 76 #[.slice (some ⟨g,0,none⟩) k c,.int .u32 (d:Int)] w (DivWordPost w g k d L):=by
 have HB:=hide hb;have HK:=hide hk;have HL:=hide hL
 clear hb hk hL
 go_enter Tryz.func76,Tryz.ntmps76
 go_wp2
 go_loopw [5,6] (fun rv iv wr=>∃ j rest:Nat,∃ qs:List Nat,j≤k∧rest < d∧rv = .int .u64 (rest:Int)∧iv = .int .i64 ((j:Int) - 1)∧Hid (qs.length=k - j)∧Hid (Good32 qs)∧Hid (val W32 ((L.take k).drop j)=val W32 qs * d + rest) ∧
  Hid (Blk U32 142 wr g (L.take j ++ (qs ++ L.drop k)))∧Hid (w.grownBy wr (some g)))
  (fun _ iv _=>(intOf iv + 1).toNat)
 case atStart=>exact ⟨k,0,[],Nat.le_refl _,by omega,rfl,rfl,by simp [Hid],by intro x hx;simp at hx,by unfold Hid;rw [List.drop_of_length_le (by rw [List.length_take];omega)];simp [val],by unfold Hid;rw [List.nil_append,List.take_append_drop];exact HB.out,World.grownBy.refl _ _⟩
 case round =>
  obtain ⟨j,rest,qs,hj,hrest,rfl,rfl,hsl,hsg,hval,hblk,hgr⟩:=hrel
  by_cases h0:j=0
  ·subst h0
   go_wp2
   go_ret
   exact ⟨qs,rest,rfl,hsl.out,hsg.out,hrest,hval.out,hblk.out,hgr.out⟩
  ·obtain ⟨i,rfl⟩:∃ i,j=i + 1:=⟨j - 1,by omega⟩
   have hil:i < L.length:=by have:=HK.out;omega
   obtain ⟨x,hxe⟩:∃ x,x=L[i]:=⟨_,rfl⟩
   have hxL:L[i]? = some x:=by rw [hxe];exact List.getElem?_eq_getElem hil
   have hcx:wr.cell? ⟨g,i,none⟩=some (.int .u32 (x:Int)):=hblk.out.cell (by rw [List.getElem?_append_left (by rw [List.length_take];omega),List.getElem?_take,if_pos (by omega),hxL])
   have hfz:=hblk.out.frozen i
   have hxW:x≤4294967295:=word_le (by rw [hxe];exact HL.out _ (List.getElem_mem _))
   have hrl:rest≤4294967295:=by omega
   obtain ⟨t,ht⟩:∃ t,t=rest * 4294967296 + x:=⟨_,rfl⟩
   have hor:bits .or .u64 ((rest:Int) * 4294967296) (x:Int)=(t:Int):=by rw [ht];exact or64 hrl hxW
   have HT:=hide ht
   have hd1:=hide (Nat.mod_add_div t d)
   clear hxe ht hil
   have ha:=hide (divw_math (W:=W32) (x:=x) hval.out (show t=rest * W32 + x from HT.out) hd1.out)
   have hb:=hide (divw_lt (W:=W32) hrest (show t=rest * W32 + x from HT.out) (by rw [W32_eq];omega))
   have HI:=hide (down_list (D:=qs ++ L.drop k) (v:=t / d) hxL)
   have HD:=hide (down_drop (k:=k) hxL (by omega))
   clear hxL
   go_wp2
   go_roundw
   case rel =>
    refine ⟨i,t % d,t / d :: qs,by omega,Nat.mod_lt _ (by omega),rfl,by go_num,by unfold Hid;rw [List.length_cons,hsl.out];omega,?_,?_,?_,grown_set hgr.out _ _⟩
    ·intro y hy
     rcases List.mem_cons.1 hy with rfl | hy
     ·exact hb.out
     ·exact hsg.out y hy
    ·unfold Hid
     rw [HD.out,val,val]
     exact ha.out
    ·have h1:=hblk.out.set_ i (t / d)
     rw [HI.out] at h1
     rw [quo_word hb.out]
     exact h1
   case measure=>simp [intOf]
end Go.Proofs.YtfflmmbhpchloaaGreatDoor
end
