/- Each theorem here says its own conditions. -/
import Derived.Test.YtfflmmbhpchloaaGreatDoorGTpwc5
set_option maxRecDepth 100000
set_option maxHeartbeats 16000000
section
open Go.RowKit
namespace Go.Proofs.YtfflmmbhpchloaaGreatDoor
theorem W32_split {sh:Nat} (h:sh≤31):W32=2 ^ sh * 2 ^ (32 - sh):=by
 rw [← Nat.pow_add,show sh + (32 - sh)=32 by omega];rfl
theorem shl_lo {y sh:Nat} (h:sh≤31):y * 2 ^ sh % W32=(y % 2 ^ (32 - sh)) * 2 ^ sh:=by
 rw [W32_split h,Nat.mul_comm y,Nat.mul_mod_mul_left,Nat.mul_comm]
theorem shl_room {y sh hh:Nat} (h:sh≤31) (hl:hh < 2 ^ sh):hh + y * 2 ^ sh % W32 < W32:=by
 rw [shl_lo h]
 have h1:y % 2 ^ (32 - sh) + 1≤2 ^ (32 - sh):=Nat.mod_lt _ (Nat.pow_pos (by decide))
 have h2:=Nat.mul_le_mul_right (2 ^ sh) h1
 rw [Nat.add_mul,Nat.one_mul,Nat.mul_comm (2 ^ (32 - sh)),← W32_split h] at h2
 omega
theorem shl_hi {y sh:Nat} (hy:y < W32):y * 2 ^ sh / W32 < 2 ^ sh:=by
 rw [Nat.div_lt_iff_lt_mul (by decide),Nat.mul_comm (2 ^ sh)]
 exact Nat.mul_lt_mul_of_pos_right hy (Nat.pow_pos (by decide))
theorem shl_wrap {y sh:Nat} (hy:y < W32) (h:sh≤31):IntKind.u64.wrap ((y:Int) * 2 ^ sh)=((y * 2 ^ sh:Nat):Int):=by
 have h1:y * 2 ^ sh < W32 * 2 ^ 31:=Nat.lt_of_lt_of_le (Nat.mul_lt_mul_of_pos_right hy (Nat.pow_pos (by decide))) (Nat.mul_le_mul_left _ (Nat.pow_le_pow_right (by decide) h))
 have h2:W32 * 2 ^ 31≤18446744073709551615:=by decide
 rw [show ((y:Int) * 2 ^ sh)=((y * 2 ^ sh:Nat):Int) by rw [Int.natCast_mul,Int.natCast_pow];rfl]
 exact u64_nat (by omega)
theorem shl_or {y sh hh:Nat} (h:sh≤31) (hl:hh < 2 ^ sh):bits .or .u32 (hh:Int) (((y * 2 ^ sh:Nat):Int) % 4294967296)=((hh + y * 2 ^ sh % W32:Nat):Int):=by
 have h0:=shl_room (y:=y) h hl
 have h3:y * 2 ^ sh % W32 < W32:=Nat.mod_lt _ (by decide)
 rw [lo32,u32_or_nat _ _ (by rw [W32_eq] at h0;omega) (by rw [W32_eq] at h3;exact h3),Nat.or_comm,shl_lo h,or_pow _ _ _ hl,Nat.add_comm]
theorem shl_math {P V hh T A y W s:Nat} (h:V + P * hh=A * s) (ht:T=y * s):V + P * (hh + T % W) + P * W * (T / W)=(A + P * y) * s:=by
 have e:P * (hh + T % W) + P * W * (T / W)=P * hh + P * T:=by
  rw [Nat.mul_assoc,← Nat.mul_add,Nat.add_assoc,Nat.mod_add_div,Nat.mul_add]
 rw [Nat.add_assoc,e,← Nat.add_assoc,h,ht,Nat.add_mul,Nat.mul_assoc]
theorem shl_list {seg:List Nat} {i hh z a b:Nat} (h:seg.length=i):((seg ++ (hh :: 0 :: List.replicate z 0)).set i a).set (i + 1) b=(seg ++ [a]) ++ (b :: List.replicate z 0):=by
 rw [List.set_append,if_neg (by omega),h,Nat.sub_self,List.set_cons_zero,List.set_append,if_neg (by omega),h,show i + 1 - i=1 by omega]
 simp
def ShlPost (w:World) (n sh v:Nat) (e:Ending) (w':World):Prop :=
 ∃ g R,e = .returned (.slice (some ⟨g,0,none⟩) (n + 1) (n + 1))∧Hid (w.heap.size≤g)∧Hid (Blk U32 142 w' g R)∧Hid (R.length=n + 1)∧Hid (Good32 R)∧Hid (val W32 R=v * 2 ^ sh)∧Hid (Below w.heap.size w w')
theorem shiftLeft_any {A:Option Addr} {n c sh:Nat} {ys:List Nat} {w:World} (hn:n=ys.length) (h:Rd U32 w w.heap.size A ys) (hy:Good32 ys) (hl:n≤100000) (hs:sh≤31) :
 Calls Tryz.prog 148 #[.slice A n c,.int .i64 (sh:Int)] w (ShlPost w n sh (val W32 ys)):=by
 have HN:=hide hn
 have HR:=hide h
 have HY:=hide hy
 clear hn h hy
 go_enter Tryz.func148,Tryz.ntmps148
 go_wp2_with (first | (at_make;go_must (refine wpList_words rfl _ _ rfl (n + 1) rfl rfl (by omega) ?_;intro g w1 hg hb1 hbel)))
 have hgw:w.heap.size≤g:=by rw [hg.out];exact Nat.le_refl _
 have HW1:=hide hbel
 clear hg hbel
 go_loopw [15] (fun iv wr=>∃ (i hh:Nat) (seg:List Nat),i≤n∧iv = .int .i64 (i:Int)∧Hid (hh < 2 ^ sh)∧Hid (seg.length=i)∧Hid (Good32 seg)∧Hid (val W32 seg + W32 ^ i * hh=val W32 (ys.take i) * 2 ^ sh)∧Hid (Blk U32 142 wr g (seg ++ (hh :: List.replicate (n - i) 0)))∧Hid (w1.grownBy wr (some g)))
  (fun iv _=>n - (intOf iv).toNat)
 case atStart=>exact ⟨0,0,[],Nat.zero_le _,rfl,Nat.pow_pos (by decide),rfl,by intro x hx;simp at hx,by simp [Hid,val],by have:=hb1.out;rw [List.replicate_succ] at this;exact this,World.grownBy.refl _ _⟩
 case round =>
  obtain ⟨i,hh,seg,hi,rfl,hhl,hsl,hsg,hval,hblk,hgr⟩:=hrel
  by_cases hlt:i < n
  ·have hiy:i < ys.length:=by rw [← HN.out];exact hlt
   obtain ⟨y,hye⟩:∃ y,y=ys[i]:=⟨_,rfl⟩
   obtain ⟨ad,rfl,hab,hcy⟩:=((HR.out.below HW1.out).grown hgr.out hgw).at_ hiy
   rw [← hye] at hcy
   unfold U32 at hcy
   have hyW:y≤4294967295:=word_le (by rw [hye];exact HY.out _ (List.getElem_mem _))
   obtain ⟨z,hz⟩:∃ z,n - i=z + 1:=⟨n - i - 1,by omega⟩
   rw [hz,List.replicate_succ] at hblk
   have HZ:=hide hz
   have hc0:wr.cell? ⟨g,i,none⟩=some (.int .u32 (hh:Int)):=hblk.out.cell (by rw [List.getElem?_append_right (by rw [hsl.out];exact Nat.le_refl _),hsl.out,Nat.sub_self];rfl)
   have hf0:=hblk.out.frozen i
   have hc1:wr.cell? ⟨g,i + 1,none⟩=some (.int .u32 0):=hblk.out.cell (by rw [List.getElem?_append_right (by rw [hsl.out];omega),hsl.out,show i + 1 - i=1 by omega];rfl)
   have hf1:=hblk.out.frozen (i + 1)
   have HWW:=hide (shl_wrap (y:=y) (sh:=sh) (by rw [W32_eq];omega) hs)
   have HOR:=hide (shl_or (y:=y) hs hhl.out)
   have HHI:Hid (y * 2 ^ sh / W32 < 2 ^ sh):=shl_hi (by rw [W32_eq];omega)
   have HHW:Hid (y * 2 ^ sh / W32 < W32):=Nat.lt_trans HHI.out (Nat.lt_of_le_of_lt (Nat.pow_le_pow_right (by decide) hs) (by decide))
   have RY:=hide (val_take_succ W32 (L:=ys) (i:=i) (x:=y) (by rw [hye];exact List.getElem?_eq_getElem hiy))
   have RM:=hide (shl_math (W:=W32) (y:=y) hval.out rfl)
   clear hz hye hiy
   go_wp2
   go_roundw
   case rel =>
    rw [HWW.out,HOR.out]
    refine ⟨i + 1,y * 2 ^ sh / W32,seg ++ [hh + y * 2 ^ sh % W32],by omega,by go_num,HHI,by unfold Hid;simp [hsl.out],good_snoc hsg.out (shl_room hs hhl.out),?_,?_,grown_set (grown_set hgr.out _ _) _ _⟩
    ·unfold Hid
     rw [val_snoc,hsl.out,Nat.pow_succ,RY.out]
     exact RM.out
    ·have h1:=(hblk.out.set_ i (hh + y * 2 ^ sh % W32)).set_ (i + 1) (y * 2 ^ sh / W32)
     rw [shl_list hsl.out] at h1
     have e:((y * 2 ^ sh:Nat):Int) / 4294967296 % 4294967296=((y * 2 ^ sh / W32:Nat):Int):=by
      have h3:=HHW.out
      rw [hi32]
      rw [W32_eq] at h3 ⊢
      omega
     rw [e,show n - (i + 1)=z by have:=HZ.out;omega]
     exact h1
   case measure=>simp [intOf];omega
  ·obtain rfl:i=n:=by omega
   go_wp2
   go_ret
   have hb:=hblk.out
   rw [Nat.sub_self,List.replicate_zero] at hb
   refine ⟨g,seg ++ [hh],rfl,hgw,hb,by unfold Hid;simp [hsl.out],?_,?_,HW1.out.trans (grown_below hgr.out hgw hb1.out.lt)⟩
   ·exact good_snoc hsg.out (Nat.lt_of_lt_of_le hhl.out (Nat.le_trans (Nat.pow_le_pow_right (by decide) hs) (by decide)))
   ·unfold Hid
    rw [val_snoc,hsl.out,hval.out,List.take_of_length_le (by rw [← HN.out];exact Nat.le_refl _)]
theorem W32_split' {s:Nat} (h:s≤31):W32=2 ^ (32 - s) * 2 ^ s:=by rw [W32_split h,Nat.mul_comm]
theorem shr_wide {y s:Nat} (h:s≤31):y * 4294967296 / 2 ^ s=y * 2 ^ (32 - s):=by
 rw [show (4294967296:Nat)=2 ^ (32 - s) * 2 ^ s from W32_split' h,← Nat.mul_assoc,Nat.mul_div_cancel _ (Nat.pow_pos (by decide))]
theorem shr_lo {y s:Nat} (h:s≤31):y * 2 ^ (32 - s) % W32=(y % 2 ^ s) * 2 ^ (32 - s):=by
 rw [W32_split' h,Nat.mul_comm y,Nat.mul_mod_mul_left,Nat.mul_comm]
theorem shr_hi {y s:Nat} (h:s≤31):y * 2 ^ (32 - s) / W32=y / 2 ^ s:=by
 rw [W32_split' h,Nat.mul_comm y,Nat.mul_div_mul_left _ _ (Nat.pow_pos (by decide))]
theorem shr_top {y s:Nat} (hy:y < W32) (h:s≤31):y / 2 ^ s < 2 ^ (32 - s):=by
 rw [Nat.div_lt_iff_lt_mul (Nat.pow_pos (by decide)),← W32_split' h];exact hy
theorem shr_room {y s t:Nat} (h:s≤31) (ht:t < 2 ^ (32 - s)):t + (y % 2 ^ s) * 2 ^ (32 - s) < W32:=by
 have h1:y % 2 ^ s + 1≤2 ^ s:=Nat.mod_lt _ (Nat.pow_pos (by decide))
 have h2:=Nat.mul_le_mul_right (2 ^ (32 - s)) h1
 rw [Nat.add_mul,Nat.one_mul,← W32_split h] at h2
 omega
theorem shr_or {y s t:Nat} (h:s≤31) (ht:t < 2 ^ (32 - s)):bits .or .u32 (t:Int) (((y * 2 ^ (32 - s):Nat):Int) % 4294967296)=((t + (y % 2 ^ s) * 2 ^ (32 - s):Nat):Int):=by
 have h0:=shr_room (y:=y) h ht
 have h3:y * 2 ^ (32 - s) % W32 < W32:=Nat.mod_lt _ (by decide)
 rw [lo32,u32_or_nat _ _ (by rw [W32_eq] at h0;omega) (by rw [W32_eq] at h3;exact h3),Nat.or_comm,shr_lo h,or_pow _ _ _ ht,Nat.add_comm]
theorem shr_wrap {y s:Nat} (h:s≤31):((y:Int) * 4294967296) / 2 ^ s=((y * 2 ^ (32 - s):Nat):Int):=by
 rw [← shr_wide h,Int.natCast_ediv,Int.natCast_mul,Int.natCast_pow];rfl
theorem shr_math {V P p A y s:Nat} (hs:s≤31) (h:V + P * p=A / 2 ^ s):V + P * (p + (y % 2 ^ s) * 2 ^ (32 - s)) + P * W32 * (y / 2 ^ s)=(A + P * W32 * y) / 2 ^ s:=by
 have e1:P * W32 * y=2 ^ s * (P * 2 ^ (32 - s) * y):=by
  rw [W32_split hs]
  simp only [Nat.mul_assoc,Nat.mul_left_comm]
 rw [e1,Nat.add_mul_div_left _ _ (Nat.pow_pos (by decide)),← h,W32_split hs]
 have e2:P * 2 ^ (32 - s) * y=P * (y % 2 ^ s * 2 ^ (32 - s)) + P * (2 ^ s * 2 ^ (32 - s)) * (y / 2 ^ s):=by
  have e3:=Nat.mod_add_div y (2 ^ s)
  have e4:P * (2 ^ s * 2 ^ (32 - s)) * (y / 2 ^ s)=P * 2 ^ (32 - s) * (2 ^ s * (y / 2 ^ s)):=by
   simp only [Nat.mul_assoc,Nat.mul_left_comm]
  rw [e4,Nat.mul_comm (y % 2 ^ s),← Nat.mul_assoc,← Nat.mul_add,e3]
 rw [e2,Nat.mul_add]
 omega
theorem shr_word {y s:Nat} (hy:y < W32) (hs:s≤31):((y * 2 ^ (32 - s):Nat):Int) / 4294967296 % 4294967296=((y / 2 ^ s:Nat):Int):=by
 have h3:y * 2 ^ (32 - s) / W32=y / 2 ^ s:=shr_hi hs
 have h4:y / 2 ^ s < W32:=Nat.lt_of_le_of_lt (Nat.div_le_self _ _) hy
 rw [hi32,h3]
 obtain ⟨q,hq⟩:∃ q,q=y / 2 ^ s:=⟨_,rfl⟩
 rw [← hq,W32_eq] at h4
 rw [← hq]
 omega
theorem shr_list {seg:List Nat} {i z a b c d:Nat} (h:seg.length=i):(((seg ++ [c]) ++ (d :: List.replicate z 0)).set (i + 1) a).set i b=((seg ++ [b]) ++ [a]) ++ List.replicate z 0:=by
 simp [List.set_append,h]
theorem shr_snoc {seg:List Nat} {j:Nat} (h:seg.length=j + 1):∃ S p,seg=S ++ [p]∧S.length=j:=by
 have hne:seg ≠ []:=by intro e;rw [e] at h;cases h
 refine ⟨seg.dropLast,seg.getLast hne,(List.dropLast_concat_getLast hne).symm,?_⟩
 rw [List.length_dropLast,h];rfl
def ShrPost (w:World) (n sh v:Nat) (e:Ending) (w':World):Prop :=
 ∃ g R,e = .returned (.slice (some ⟨g,0,none⟩) n n)∧Hid (w.heap.size≤g)∧Hid (Blk U32 142 w' g R)∧Hid (R.length=n)∧Hid (Good32 R)∧Hid (val W32 R=v / 2 ^ sh)∧Hid (Below w.heap.size w w')
theorem shiftRight_any {A:Option Addr} {n c sh:Nat} {ys:List Nat} {w:World} (hn:n=ys.length) (h:Rd U32 w w.heap.size A ys) (hy:Good32 ys) (hl:n≤100000) (hs:sh≤31) :
 Calls Tryz.prog 150 #[.slice A n c,.int .i64 (sh:Int)] w (ShrPost w n sh (val W32 ys)):=by
 have HN:=hide hn
 have HR:=hide h
 have HY:=hide hy
 clear hn h hy
 go_enter Tryz.func150,Tryz.ntmps150
 go_wp2_with (first | (at_make;go_must (refine wpList_words rfl _ _ rfl n rfl rfl (by omega) ?_;intro g w1 hg hb1 hbel)))
 have hgw:w.heap.size≤g:=by rw [hg.out];exact Nat.le_refl _
 have HW1:=hide hbel
 clear hg hbel
 go_loopw [14] (fun iv wr=>∃ (i:Nat) (seg:List Nat),i≤n∧iv = .int .i64 (i:Int)∧Hid (seg.length=i)∧Hid (Good32 seg)∧Hid (∀ t,seg.getLast? = some t→t < 2 ^ (32 - sh))∧Hid (val W32 seg=val W32 (ys.take i) / 2 ^ sh)∧Hid (Blk U32 142 wr g (seg ++ List.replicate (n - i) 0))∧Hid (w1.grownBy wr (some g)))
  (fun iv _=>n - (intOf iv).toNat)
 case atStart=>exact ⟨0,[],Nat.zero_le _,rfl,rfl,by intro x hx;simp at hx,by intro t ht;simp at ht,by simp [Hid,val],hb1,World.grownBy.refl _ _⟩
 case round =>
  obtain ⟨i,seg,hi,rfl,hsl,hsg,hst,hval,hblk,hgr⟩:=hrel
  by_cases hlt:i < n
  ·have hiy:i < ys.length:=by rw [← HN.out];exact hlt
   obtain ⟨y,hye⟩:∃ y,y=ys[i]:=⟨_,rfl⟩
   obtain ⟨ad,rfl,hab,hcy⟩:=((HR.out.below HW1.out).grown hgr.out hgw).at_ hiy
   rw [← hye] at hcy
   unfold U32 at hcy
   have hyW:y≤4294967295:=word_le (by rw [hye];exact HY.out _ (List.getElem_mem _))
   have HYW:Hid (y < W32):=by unfold Hid;rw [W32_eq];omega
   obtain ⟨z,hz⟩:∃ z,n - i=z + 1:=⟨n - i - 1,by omega⟩
   rw [hz] at hblk
   have HZ:=hide hz
   have hc0:wr.cell? ⟨g,i,none⟩=some (.int .u32 0):=hblk.out.cell (get_zeros hsl.out)
   have hf0:=hblk.out.frozen i
   have HWW:=hide (shr_wrap (y:=y) (s:=sh) hs)
   have RY:=hide (val_take_succ W32 (L:=ys) (i:=i) (x:=y) (by rw [hye];exact List.getElem?_eq_getElem hiy))
   clear hz hye hiy
   by_cases h0:i=0
   ·have hk:¬ ((0:Int) < (i:Int)):=by omega
    have H0:=hide h0
    clear h0
    go_wp2
    go_roundw
    case rel =>
     rw [HWW.out,shr_word HYW.out hs]
     have hs0:seg=[]:=List.length_eq_zero_iff.mp (by rw [hsl.out,H0.out])
     refine ⟨i + 1,[y / 2 ^ sh],by omega,by go_num,by unfold Hid;rw [H0.out];rfl,?_,?_,?_,?_,grown_set hgr.out _ _⟩
     ·intro x hx
      rw [List.mem_singleton.mp hx]
      exact Nat.lt_of_le_of_lt (Nat.div_le_self _ _) HYW.out
     ·intro t ht
      have ht':y / 2 ^ sh=t:=by simpa using ht
      rw [← ht'];exact shr_top HYW.out hs
     ·unfold Hid
      rw [RY.out,H0.out]
      simp [val]
     ·have h1:=hblk.out.set_ i (y / 2 ^ sh)
      rw [hs0,H0.out,List.replicate_succ] at h1
      rw [H0.out,show n - (0 + 1)=z by have:=HZ.out;have:=H0.out;omega]
      exact h1
    case measure=>simp [intOf];omega
   ·obtain ⟨j,hj⟩:∃ j,j + 1=i:=⟨i - 1,by omega⟩
    have hk:(0:Int) < (i:Int):=by omega
    have hj':(i:Int) - 1=(j:Int):=by omega
    have HJ:=hide hj
    obtain ⟨S,p,hSp,hSl⟩:=shr_snoc (hsl.out.trans hj.symm)
    have HS:=hide hSp
    have HL:=hide hSl
    have hc2:wr.cell? ⟨g,j,none⟩=some (.int .u32 ((p:Nat):Int)):=hblk.out.cell (by rw [hSp,List.append_assoc,List.getElem?_append_right (by rw [hSl];exact Nat.le_refl _),hSl,Nat.sub_self];rfl)
    have hpt:Hid (p < 2 ^ (32 - sh)):=hst.out p (by rw [hSp];simp)
    have hpW:p≤4294967295:=word_le (hsg.out p (by rw [hSp];simp))
    have HOR:=hide (shr_or (y:=y) hs hpt.out)
    have hv:=hval.out
    rw [hSp,val_snoc,hSl] at hv
    have RM:=hide (shr_math (y:=y) hs hv)
    clear hSp hSl hv
    have hf2:=hblk.out.frozen j
    clear h0
    go_wp2
    go_roundw
    case rel =>
     rw [HWW.out,shr_word HYW.out hs,HOR.out]
     refine ⟨i + 1,(S ++ [p + y % 2 ^ sh * 2 ^ (32 - sh)]) ++ [y / 2 ^ sh],by omega,by go_num,by unfold Hid;simp [HL.out,HJ.out],?_,?_,?_,?_,grown_set (grown_set hgr.out _ _) _ _⟩
     ·refine good_snoc (good_snoc (fun x hx=>hsg.out x (by rw [HS.out];simp [hx])) (shr_room hs hpt.out)) (Nat.lt_of_le_of_lt (Nat.div_le_self _ _) HYW.out)
     ·intro t ht
      have ht':y / 2 ^ sh=t:=by simpa using ht
      rw [← ht'];exact shr_top HYW.out hs
     ·unfold Hid
      rw [val_snoc,val_snoc,RY.out,HL.out,List.length_append,HL.out,← HJ.out]
      have h2:=RM.out
      rw [Nat.pow_succ,HJ.out]
      exact h2
     ·have h1:=(hblk.out.set_ i (y / 2 ^ sh)).set_ j (p + y % 2 ^ sh * 2 ^ (32 - sh))
      rw [HS.out,List.replicate_succ,← HJ.out,shr_list HL.out] at h1
      rw [show n - (i + 1)=z by have:=HZ.out;omega,← HJ.out]
      exact h1
    case measure=>simp [intOf];omega
  ·obtain rfl:i=n:=by omega
   go_wp2
   go_ret
   have hb:=hblk.out
   rw [Nat.sub_self,List.replicate_zero,List.append_nil] at hb
   refine ⟨g,seg,rfl,hgw,hb,hsl,hsg,?_,HW1.out.trans (grown_below hgr.out hgw hb1.out.lt)⟩
   unfold Hid
   rw [hval.out,List.take_of_length_le (by rw [← HN.out];exact Nat.le_refl _)]
def SubMulPost (w:World) (g o k f t:Nat) (l ys:List Nat) (e:Ending) (w':World):Prop :=
 ∃ (seg:List Nat) (c:Nat),e = .returned (.bool (decide (t < c)))∧Hid (seg.length=k)∧Hid (Good32 seg)∧Hid (c≤W32)∧Hid (val W32 seg + f * val W32 ys=val W32 ((l.drop o).take k) + W32 ^ k * c) ∧
  Blk U32 142 w' g (l.take o ++ (seg ++ l.drop (o + k)))∧w.grownBy w' (some g)
theorem submul_prod {y f cr:Nat} (hy:y < W32) (hf:f < W32) (hc:cr≤W32):cr + y * f≤18446744069414584321:=by
 have h:=Nat.mul_le_mul (Nat.le_sub_one_of_lt hy) (Nat.le_sub_one_of_lt hf)
 rw [W32_eq] at *
 omega
theorem submul_wrap {y f cr:Nat} (hy:y < W32) (hf:f < W32) (hc:cr≤W32) :
 IntKind.u64.wrap ((cr:Int) + IntKind.u64.wrap (IntKind.u64.wrap (y:Int) * IntKind.u64.wrap (f:Int)))=((cr + y * f:Nat):Int):=by
 have h1:=submul_prod hy hf hc
 rw [u64_word hy,u64_word hf,← Int.natCast_mul,u64_nat (by omega),← Int.natCast_add,u64_nat (by omega)]
theorem submul_math {P V VL VY cr y f s s' T r q b W:Nat} (h:V + f * VY=VL + P * cr) (hT:T=cr + y * f) (hq:r + W * q=T) (hs:s' + r=s + W * b):V + P * s' + f * (VY + P * y)=VL + P * s + P * W * (q + b):=by
 have e1:P * s' + P * T=P * s + P * W * (q + b):=by
  rw [← Nat.mul_add,show s' + T=s + W * (q + b) by rw [Nat.mul_add];omega,Nat.mul_add,Nat.mul_assoc]
 have e2:P * T=P * cr + P * (y * f):=by rw [hT,Nat.mul_add]
 have e3:f * (P * y)=P * (y * f):=by rw [Nat.mul_comm y f,Nat.mul_left_comm]
 rw [Nat.mul_add f,e3];omega
theorem submul_yes {T s:Nat} (hT:T≤18446744069414584321) (hs:s < W32) (h:(s:Int) < (T:Int) % 4294967296) :
 ∃ s' b,s' < W32∧T / W32 + b≤W32∧s' + T % W32=s + W32 * b∧IntKind.u64.wrap ((T:Int) / 4294967296 + 1)=((T / W32 + b:Nat):Int)∧((s:Int) - (T:Int)) % 4294967296=(s':Int):=by
 rw [W32_eq] at *
 refine ⟨s + 4294967296 - T % 4294967296,1,by omega,by omega,by omega,?_,by omega⟩
 rw [show (T:Int) / 4294967296 + 1=((T / 4294967296 + 1:Nat):Int) by omega]
 exact u64_nat (by omega)
theorem submul_no {T s:Nat} (hT:T≤18446744069414584321) (hs:s < W32) (h:¬ (s:Int) < (T:Int) % 4294967296) :
 ∃ s' b,s' < W32∧T / W32 + b≤W32∧s' + T % W32=s + W32 * b∧(T:Int) / 4294967296=((T / W32 + b:Nat):Int)∧((s:Int) - (T:Int)) % 4294967296=(s':Int):=by
 rw [W32_eq] at *
 exact ⟨s - T % 4294967296,0,by omega,by omega,by omega,by omega,by omega⟩
theorem subMultiple_any {A:Option Addr} {g o k c c' f t B:Nat} {l ys:List Nat} {w:World} (hb:Blk U32 142 w g l) (hr:Rd U32 w B A ys) (hB:B≤g) (hk:k=ys.length) (ho:o + k < l.length) (ht:l[o + k]? = some t)
 (hl:Good32 l) (hy:Good32 ys) (hf:f < W32) (hlim:l.length≤1000000) :
 Calls Tryz.prog 199 #[.slice (some ⟨g,o,none⟩) (k + 1) c,.slice A k c',.int .u32 (f:Int)] w (SubMulPost w g o k f t l ys):=by
 have HB:=hide hb;have HR:=hide hr;have HK:=hide hk;have HL:=hide hl;have HY:=hide hy;have HF:=hide hf;have HO:=hide ho;have HT:=hide ht
 have hkl:k≤1000000:=by omega
 clear hb hr hk hl hy hf hlim ho ht
 go_enter Tryz.func199,Tryz.ntmps199
 go_wp2
 go_loopw [7,13] (fun cv iv wr=>∃ i cr:Nat,∃ seg:List Nat,i≤k∧Hid (cr≤W32)∧iv = .int .i64 (i:Int)∧cv = .int .u64 (cr:Int)∧Hid (seg.length=i)∧Hid (Good32 seg) ∧
  Hid (val W32 seg + f * val W32 (ys.take i)=val W32 ((l.drop o).take i) + W32 ^ i * cr)∧Hid (Blk U32 142 wr g (l.take o ++ (seg ++ l.drop (o + i))))∧Hid (w.grownBy wr (some g)))
  (fun _ iv _=>k - (intOf iv).toNat)
 case atStart=>exact ⟨0,0,[],Nat.zero_le _,by unfold Hid;decide,rfl,rfl,rfl,by intro x hx;simp at hx,by simp [Hid,val],by simpa [Hid] using HB.out,World.grownBy.refl _ _⟩
 case round =>
  obtain ⟨i,cr,seg,hi,hcr,rfl,rfl,hsl,hsg,hval,hblk,hgr⟩:=hrel
  by_cases hlt:i < k
  ·have hiy:i < ys.length:=by rw [← HK.out];exact hlt
   have hil:o + i < l.length:=by have:=HO.out;omega
   obtain ⟨y,hye⟩:∃ y,y=ys[i]:=⟨_,rfl⟩
   obtain ⟨s,hse⟩:∃ s,s=l[o + i]:=⟨_,rfl⟩
   obtain ⟨ad,rfl,hab,hcy⟩:=(HR.out.grown hgr.out hB).at_ hiy
   have hsL:l[o + i]? = some s:=by rw [hse];exact List.getElem?_eq_getElem hil
   have hcs:wr.cell? ⟨g,o + i,none⟩=some (U32 s):=hblk.out.cell (by rw [get_mid (by rw [List.length_take];omega) hsl.out,hsL])
   have hfz:=hblk.out.frozen (o + i)
   rw [← hye] at hcy
   have hyW:y < W32:=by rw [hye];exact HY.out _ (List.getElem_mem _)
   have hsW:s < W32:=by rw [hse];exact HL.out _ (List.getElem_mem _)
   have RL:=hide (val_take_succ W32 (L:=l.drop o) (i:=i) (x:=s) (by rw [List.getElem?_drop];exact hsL))
   have RY:=hide (val_take_succ W32 (L:=ys) (i:=i) (x:=y) (by rw [hye];exact List.getElem?_eq_getElem hiy))
   have Rm:=hide (fun v=>set_mid (seg:=seg) (v:=v) (show (l.take o).length=o by rw [List.length_take];omega) hsl.out hil)
   have RW:=hide (submul_wrap hyW HF.out hcr.out)
   have RP:=hide (submul_prod hyW HF.out hcr.out)
   have HSW:=hide hsW
   unfold U32 at hcs hcy
   clear hye hse hiy hil hyW hsW hsL
   go_wp2
   ·rename_i hh
    rw [RW.out] at hh
    obtain ⟨s',b,q1,q2,q3,q4,q5⟩:=submul_yes RP.out HSW.out hh
    rw [RW.out]
    refine ⟨⟨i + 1,(cr + y * f) / W32 + b,seg ++ [s'],by omega,q2,by go_num,by rw [q4],by unfold Hid;simp [hsl.out],good_snoc hsg.out q1,?_,?_,?_⟩,?_⟩
    ·unfold Hid
     rw [val_snoc,hsl.out,Nat.pow_succ,RL.out,RY.out]
     exact submul_math hval.out rfl (lohi _) q3
    ·have hb:=hblk.out.set_ (o + i) s'
     rw [Rm.out] at hb
     rw [q5]
     exact hb
    ·exact grown_set hgr.out _ _
    ·simp [intOf];omega
   ·rename_i hh
    rw [RW.out] at hh
    obtain ⟨s',b,q1,q2,q3,q4,q5⟩:=submul_no RP.out HSW.out (Int.not_lt.mpr hh)
    rw [RW.out]
    refine ⟨⟨i + 1,(cr + y * f) / W32 + b,seg ++ [s'],by omega,q2,by go_num,by rw [q4],by unfold Hid;simp [hsl.out],good_snoc hsg.out q1,?_,?_,?_⟩,?_⟩
    ·unfold Hid
     rw [val_snoc,hsl.out,Nat.pow_succ,RL.out,RY.out]
     exact submul_math hval.out rfl (lohi _) q3
    ·have hb:=hblk.out.set_ (o + i) s'
     rw [Rm.out] at hb
     rw [q5]
     exact hb
    ·exact grown_set hgr.out _ _
    ·simp [intOf];omega
  ·obtain rfl:i=k:=by omega
   have hct:wr.cell? ⟨g,o + i,none⟩=some (U32 t):=hblk.out.cell (by rw [get_mid (by rw [List.length_take];have:=HO.out;omega) hsl.out];exact HT.out)
   have htW:t≤4294967295:=word_le (HL.out _ (List.mem_of_getElem? HT.out))
   have hcw:cr≤4294967296:=by have:=hcr.out;rw [W32_eq] at this;exact this
   unfold U32 at hct
   go_wp2
   go_ret
   refine ⟨seg,cr,rfl,hsl.out,hsg.out,hcr.out,?_,hblk.out,hgr.out⟩
   have:=hval.out
   rwa [List.take_of_length_le (show ys.length≤i by rw [HK.out];exact Nat.le_refl _)] at this
def GuessPost (w:World) (u2 u1 u0 hi lo:Nat) (e:Ending) (w':World):Prop :=
 ∃ D:Nat,e = .returned (.int .u32 (D:Int))∧(∃ q,w'=w.drewN q)∧D < W32∧D * (hi * W32 + lo)≤(u2 * W32 + u1) * W32 + u0∧(D + 1=W32 ∨ (u2 * W32 + u1) * W32 + u0 < (D + 1) * (hi * W32 + lo))
theorem guess_mul {D hi R T lo W:Nat} (h:D * hi + R=T):D * (hi * W + lo) + R * W=T * W + D * lo:=by
 rw [← h,Nat.mul_add,Nat.add_mul,Nat.mul_assoc];omega
theorem guess_aux {X Y Z V u0:Nat} (h:X + V=Z + Y) (hc:V + u0 < Y):Z + u0 < X:=by omega
theorem guess_step {D hi R T lo u0:Nat} (h:D * hi + R=T) (h1:1≤D) (hc:W32≤D ∨ R * 4294967296 + u0 < D * lo):W32≤D - 1 + 1 ∨ T * W32 + u0 < (D - 1 + 1) * (hi * W32 + lo):=by
 rw [show D - 1 + 1=D by omega]
 rcases hc with hc | hc
 ·exact Or.inl hc
 ·have h3:=guess_mul (lo:=lo) (W:=W32) h
  exact Or.inr (guess_aux h3 hc)
theorem guess_end {D hi R T lo u0:Nat} (h:D * hi + R=T) (hc:D * lo≤R * 4294967296 + u0):D * (hi * W32 + lo)≤T * W32 + u0:=by
 have:=guess_mul (lo:=lo) (W:=W32) h
 rw [W32_eq] at *;omega
theorem guess_less {D hi R T u2 u1:Nat} (h:D * hi + R=T) (hR:4294967295 < R) (hT:T=u2 * 4294967296 + u1) (hu1:u1 < W32) (hu2:u2≤hi):D < W32:=by
 rcases Nat.lt_or_ge D W32 with h1 | h1
 ·exact h1
 ·have h2:=Nat.mul_le_mul h1 hu2
  rw [W32_eq] at *;omega
theorem guess_break {D hi R T lo u0:Nat} (h:D * hi + R=T) (hR:4294967295 < R) (hD:D < W32) (hlo:lo < W32):D * (hi * W32 + lo)≤T * W32 + u0:=by
 have h1:=Nat.mul_le_mul (Nat.le_of_lt hD) (Nat.le_of_lt hlo)
 have:=guess_mul (lo:=lo) (W:=W32) h
 rw [W32_eq] at *;omega
theorem guess_dec {D hi R T:Nat} (h:D * hi + R=T) (h1:1≤D):(D - 1) * hi + (R + hi)=T:=by
 obtain ⟨E,rfl⟩:∃ E,D=E + 1:=⟨D - 1,by omega⟩
 rw [Nat.add_mul,Nat.one_mul] at h
 rw [Nat.add_sub_cancel];omega
theorem guess_fin {w w':World} {D T u2 u1 u0 hi lo n:Nat} {e:Ending} (hT:u2 * W32 + u1=T) (he:e = .returned (.int .u32 (D:Int))) (hw:w'=w.drewN n) (hD:D < W32) (h1:D * (hi * W32 + lo)≤T * W32 + u0) (h2:W32≤D + 1 ∨ T * W32 + u0 < (D + 1) * (hi * W32 + lo)):GuessPost w u2 u1 u0 hi lo e w':=by
 subst hT
 exact ⟨D,he,⟨n,hw⟩,hD,h1,h2.imp (fun h=>by omega) id⟩
theorem guess_start {T hi lo u0:Nat} (hh:0 < hi) (hu0:u0 < W32):T * W32 + u0 < (T / hi + 1) * (hi * W32 + lo):=by
 have h1:T < (T / hi + 1) * hi:=by
  have h2:=Nat.mod_add_div T hi
  have h3:=Nat.mod_lt T hh
  rw [Nat.add_mul,Nat.one_mul,Nat.mul_comm];omega
 have h2:(T + 1) * W32≤(T / hi + 1) * hi * W32:=Nat.mul_le_mul_right _ h1
 rw [Nat.add_mul,Nat.one_mul] at h2
 rw [Nat.mul_add,← Nat.mul_assoc];omega
theorem guess_top {T hi u2 u1:Nat} (hT:T=u2 * 4294967296 + u1) (hu1:u1 < W32) (hu2:u2≤hi) (hh:2147483648≤hi):T / hi≤4294967297:=by
 refine Nat.le_of_lt_succ ?_
 rw [Nat.div_lt_iff_lt_mul (by omega)]
 rw [W32_eq] at hu1;omega
theorem guessDigit_any {ad:Addr} {g o k i1 i2 c c' u2 u1 u0 hi lo:Nat} {w:World} (hk:k≤1000000) (hi1:i1 + 1=k) (hi2:i2 + 2=k)
 (h2:w.cell? ⟨g,o + k,none⟩=some (.int .u32 (u2:Int))) (h1:w.cell? ⟨g,o + i1,none⟩=some (.int .u32 (u1:Int))) (h0:w.cell? ⟨g,o + i2,none⟩=some (.int .u32 (u0:Int)))
 (hh:w.cell? (ad.add i1)=some (.int .u32 (hi:Int))) (hl:w.cell? (ad.add i2)=some (.int .u32 (lo:Int)))
 (hu2:u2≤hi) (hu1:u1 < W32) (hu0:u0 < W32) (hhi:hi < W32) (hlo:lo < W32) (htop:2147483648≤hi) :
 Calls Tryz.prog 198 #[.slice (some ⟨g,o,none⟩) (k + 1) c,.slice (some ad) k c'] w (GuessPost w u2 u1 u0 hi lo):=by
 have hhz:¬ (hi:Int)=0:=by omega
 go_enter Tryz.func198,Tryz.ntmps198
 have a1:IntKind.i64.wrap ((k:Int) - 1)=(i1:Int):=by rw [IntWalk.i64_in _ (by omega)];omega
 have a2:IntKind.i64.wrap ((k:Int) - 2)=(i2:Int):=by rw [IntWalk.i64_in _ (by omega)];omega
 have a3:(i1:Int) < (k:Int):=by omega
 have a4:(i2:Int) < (k:Int):=by omega
 have b1:IntKind.u64.wrap (hi:Int)=(hi:Int):=u64_word hhi
 have b2:IntKind.u64.wrap (lo:Int)=(lo:Int):=u64_word hlo
 have c1:IntKind.u64.wrap (u1:Int)=(u1:Int):=u64_word hu1
 have c2:IntKind.u64.wrap (u2:Int)=(u2:Int):=u64_word (by omega)
 obtain ⟨T,HT⟩:∃ T,Hid (T=u2 * 4294967296 + u1):=⟨_,rfl⟩
 have HTW:Hid (u2 * W32 + u1=T):=by unfold Hid;rw [W32_eq];exact HT.out.symm
 have hu2l:u2≤4294967295:=word_le (by omega)
 have C3:Hid (bits .or .u64 ((u2:Int) * 4294967296) (u1:Int)=(T:Int)):=by
  unfold Hid
  rw [HT.out]
  exact or64 hu2l (word_le hu1)
 have hT:T≤18446744073709551615:=by have:=HT.out;have:=word_le hu1;omega
 have hq:IntKind.u64.wrap ((T:Int) / (hi:Int))=((T / hi:Nat):Int):=by
  rw [← Int.natCast_ediv];exact u64_nat (Nat.le_trans (Nat.div_le_self _ _) hT)
 have hr:IntKind.u64.wrap ((T:Int).tmod (hi:Int))=((T % hi:Nat):Int):=by
  rw [← Int.ofNat_tmod];exact u64_nat (Nat.le_trans (Nat.mod_le _ _) hT)
 have hr':(T:Int).tmod (hi:Int)=((T % hi:Nat):Int):=(Int.ofNat_tmod _ _).symm
 go_wp2_with fail
 go_quiet (fail)
 rename_i nq
 obtain ⟨W2,hW2⟩:∃ W2,W2=w.drewN nq:=⟨_,rfl⟩
 rw [← hW2]
 have h2':=drew_cell hW2 h2
 have h1':=drew_cell hW2 h1
 have h0':=drew_cell hW2 h0
 have HW2:=hide hW2
 have HC0:Hid (w.cell? ⟨g,o + i2,none⟩=some (.int .u32 (u0:Int))):=h0
 clear hW2 h2 h1 h0 hh hl
 go_wp2_with fail
 go_quiet (fail)
 go_wp2_with fail
 rw [C3.out]
 go_quiet (fail)
 go_wp2_with fail
 go_loopw [9,10] (fun dv rv wr=>∃ D R n:Nat,dv = .int .u64 (D:Int)∧rv = .int .u64 (R:Int)∧Hid (wr=w.drewN n)∧Hid (D * hi + R=T)∧R≤4294967295∧D≤4294967297∧Hid (W32≤D + 1 ∨ T * W32 + u0 < (D + 1) * (hi * W32 + lo)))
  (fun dv _ _=>(intOf dv).toNat)
 case atStart =>
  refine ⟨T / hi,T % hi,_,by rw [Int.natCast_ediv],by rw [Int.natCast_emod],drew_more (drew_more HW2),?_,?_,guess_top HT.out hu1 hu2 htop,Or.inr (guess_start (by omega) hu0)⟩
  ·unfold Hid
   rw [Nat.mul_comm,Nat.div_add_mod]
  ·have:=Nat.mod_lt T (show 0 < hi by omega)
   have:=word_le hhi
   omega
 case round =>
  obtain ⟨D,R,n,rfl,rfl,hw,hsum,hR,hD,hgr⟩:=hrel
  have h0':wr.cell? ⟨g,o + i2,none⟩=some (.int .u32 (u0:Int)):=by rw [hw.out];exact HC0.out
  have hhl:=word_le hhi
  have d2:IntKind.u64.wrap ((R:Int) + (hi:Int))=((R + hi:Nat):Int):=by rw [← Int.natCast_add];exact u64_nat (by omega)
  by_cases hbig:4294967295 < D
  ·have HG:=hide (guess_step (lo:=lo) (u0:=u0) hsum.out (by omega) (Or.inl (by rw [W32_eq];omega)))
   have HS:=hide (guess_dec hsum.out (by omega))
   go_wp2
   ·go_ret
    refine guess_fin (D:=D - 1) HTW.out ?_ hw.out (guess_less HS.out (by omega) HT.out hu1 hu2) (guess_break HS.out (by omega) (guess_less HS.out (by omega) HT.out hu1 hu2) hlo) HG.out
    have hl:=guess_less HS.out (by omega) HT.out hu1 hu2
    rw [W32_eq] at hl
    show Ending.returned (.int .u32 _)=_
    congr 2;omega
   ·exact ⟨⟨D - 1,R + hi,n,by go_num,by go_num,hw,HS,by omega,by omega,HG⟩,by simp [intOf];omega⟩
  ·have e2:bits .or .u64 ((R:Int) * 4294967296) (u0:Int)=((R * 4294967296 + u0:Nat):Int):=or64 hR (word_le hu0)
   have hp:=Nat.mul_le_mul (show D≤4294967295 by omega) (word_le hlo)
   have e3:IntKind.u64.wrap ((D:Int) * (lo:Int))=((D * lo:Nat):Int):=by rw [← Int.natCast_mul];exact u64_nat (by omega)
   by_cases hc:R * 4294967296 + u0 < D * lo
   ·have h1:1≤D:=by
     rcases Nat.eq_zero_or_pos D with h | h
     ·rw [h,Nat.zero_mul] at hc;omega
     ·exact h
    have HG:=hide (guess_step (lo:=lo) (u0:=u0) hsum.out h1 (Or.inr hc))
    have HS:=hide (guess_dec hsum.out h1)
    have d1:IntKind.u64.wrap ((D:Int) - 1)=((D - 1:Nat):Int):=by rw [← u64_nat (n:=D - 1) (by omega)];congr 1;omega
    have D1:=hide d1
    clear d1
    go_wp2
    ·go_ret
     refine guess_fin (D:=D - 1) HTW.out ?_ hw.out (guess_less HS.out (by omega) HT.out hu1 hu2) (guess_break HS.out (by omega) (guess_less HS.out (by omega) HT.out hu1 hu2) hlo) HG.out
     have hl:=guess_less HS.out (by omega) HT.out hu1 hu2
     rw [W32_eq] at hl
     show Ending.returned (.int .u32 _)=_
     first | rw [D1.out] | skip
     congr 2;omega
    ·refine ⟨⟨D - 1,R + hi,n,by first | rw [D1.out] | go_num,by go_num,hw,HS,by omega,by omega,HG⟩,?_⟩
     first | rw [D1.out] | skip
     simp [intOf];omega
   ·have HE:=hide (guess_end (lo:=lo) (u0:=u0) hsum.out (by omega))
    have hc':D * lo≤R * 4294967296 + u0:=by omega
    have c0:IntKind.u64.wrap (u0:Int)=(u0:Int):=u64_word hu0
    go_wp2
    all_goals try (exfalso;rename_i hx1 hx2;rw [c0,e2,e3] at hx1;omega)
    all_goals try (exfalso;rename_i hx1;rw [c0,e2,e3] at hx1;omega)
    all_goals try (exfalso;omega)
    go_ret
    refine guess_fin (D:=D) HTW.out ?_ hw.out (by rw [W32_eq];omega) HE.out hgr.out
    show Ending.returned (.int .u32 _)=_
    congr 2 <;> omega
end Go.Proofs.YtfflmmbhpchloaaGreatDoor
end
