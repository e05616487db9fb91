/- Each theorem here says its own conditions. -/
import Derived.Test.YtfflmmbhpchloaaGreatDoorGTpwc6
set_option maxRecDepth 100000
set_option maxHeartbeats 16000000
section
open Go.RowKit
namespace Go.Proofs.YtfflmmbhpchloaaGreatDoor
theorem val_three (b:Nat) {L:List Nat} {k i1 i2 u0 u1 u2:Nat} (h1:i1 + 1=k) (h2:i2 + 2=k) (e0:L[i2]? = some u0) (e1:L[i1]? = some u1) (e2:L[k]? = some u2) :
 val b (L.take (k + 1))=val b (L.take i2) + b ^ i2 * ((u2 * b + u1) * b + u0):=by
 obtain rfl:i1=i2 + 1:=by omega
 obtain rfl:k=i2 + 2:=by omega
 rw [val_take_succ b e2,val_take_succ b e1,val_take_succ b e0,Nat.pow_succ b (i2 + 1),Nat.pow_succ]
 have a1:b ^ i2 * b * b * u2=b ^ i2 * (u2 * b * b):=by rw [Nat.mul_assoc,Nat.mul_assoc,Nat.mul_comm u2 b,Nat.mul_assoc,Nat.mul_comm u2 b]
 have a2:b ^ i2 * b * u1=b ^ i2 * (u1 * b):=by rw [Nat.mul_assoc,Nat.mul_comm b]
 rw [a1,a2,Nat.add_mul,Nat.mul_add,Nat.mul_add];omega
theorem val_two (b:Nat) {L:List Nat} {k i1 i2 u0 u1:Nat} (h1:i1 + 1=k) (h2:i2 + 2=k) (hk:L.length=k) (e0:L[i2]? = some u0) (e1:L[i1]? = some u1) :
 val b L=val b (L.take i2) + b ^ i2 * (u1 * b + u0):=by
 obtain rfl:i1=i2 + 1:=by omega
 obtain rfl:k=i2 + 2:=by omega
 have h:val b L=val b (L.take (i2 + 1 + 1)):=by rw [List.take_of_length_le (by omega)]
 rw [h,val_take_succ b e1,val_take_succ b e0,Nat.pow_succ,Nat.mul_add]
 have a2:b ^ i2 * b * u1=b ^ i2 * (u1 * b):=by rw [Nat.mul_assoc,Nat.mul_comm b]
 rw [a2];omega
theorem val_take_lt {L:List Nat} (h:Good32 L) (i:Nat):val W32 (L.take i) < W32 ^ i :=
 Nat.lt_of_lt_of_le (val_lt _ (good_take h i)) (Nat.pow_le_pow_right (by decide) (by rw [List.length_take];omega))
theorem guess_digit {U V T D P hi lo U' V':Nat} (hU:U=U' + P * T) (hV:V=V' + P * (hi * W32 + lo)) (hU':U' < P) (hV':V' < P) (hhi:1≤hi) (hD:D < W32) (hUV:U < V * W32)
 (h1:D * (hi * W32 + lo)≤T) (h2:D + 1=W32 ∨ T < (D + 1) * (hi * W32 + lo)):U < (D + 1) * V∧D * V≤U + V:=by
 constructor
 ·rcases h2 with h2 | h2
  ·rw [h2,Nat.mul_comm];exact hUV
  ·have h3:P * (T + 1)≤P * ((D + 1) * (hi * W32 + lo)):=Nat.mul_le_mul_left _ h2
   have h4:(D + 1) * (P * (hi * W32 + lo))≤(D + 1) * V:=Nat.mul_le_mul_left _ (by omega)
   rw [Nat.mul_left_comm] at h4
   rw [Nat.mul_add,Nat.mul_one] at h3
   omega
 ·have h3:P * (D * (hi * W32 + lo))≤P * T:=Nat.mul_le_mul_left _ h1
  have h4:D * V'≤W32 * P:=Nat.mul_le_mul (Nat.le_of_lt hD) (Nat.le_of_lt hV')
  have h5:P * W32≤P * (hi * W32 + lo):=Nat.mul_le_mul_left _ (Nat.le_trans (Nat.le_mul_of_pos_left _ hhi) (Nat.le_add_right _ _))
  rw [Nat.mul_comm] at h5
  rw [hV,Nat.mul_add,Nat.mul_left_comm]
  omega
theorem step_right {U V D s low P t c:Nat} (hVP:V≤P) (hU:U=low + P * t) (hsub:s + D * V=low + P * c) (h1:U < (D + 1) * V) (hct:c≤t):U / V=D∧U % V=s:=by
 have hV:0 < V:=by
  rcases Nat.eq_zero_or_pos V with h | h
  ·rw [h,Nat.mul_zero] at h1;omega
  ·exact h
 rw [Nat.add_mul,Nat.one_mul] at h1
 have e:c=t:=by
  rcases Nat.eq_or_lt_of_le hct with h | h
  ·exact h
  ·have:=Nat.mul_le_mul_left P h
   rw [Nat.mul_succ] at this
   omega
 subst e
 have hU2:U=s + V * D:=by rw [Nat.mul_comm];omega
 have hsV:s < V:=by rw [Nat.mul_comm] at hU2;omega
 rw [hU2,Nat.add_mul_div_left _ _ hV,Nat.add_mul_mod_self_left,Nat.div_eq_of_lt hsV,Nat.mod_eq_of_lt hsV]
 exact ⟨by omega,rfl⟩
theorem step_over {U V D s s2 low P t c c2:Nat} (hs:s < P) (hs2:s2 < P) (hVP:V≤P) (hU:U=low + P * t) (hlow:low < P) (hsub:s + D * V=low + P * c) (h2:D * V≤U + V) (hct:t < c) (hadd:s2 + P * c2=s + V) :
 1≤D∧U / V=D - 1∧U % V=s2:=by
 have h3:=Nat.mul_le_mul_left P hct
 rw [Nat.mul_succ] at h3
 have hD:1≤D:=by
  rcases Nat.eq_zero_or_pos D with h | h
  ·subst h;rw [Nat.zero_mul] at hsub;omega
  ·exact h
 have hc:P * c=P * t + P:=by
  have h4:c=t + 1:=by
   rcases Nat.eq_or_lt_of_le hct with h | h
   ·exact h.symm
   ·have h5:=Nat.mul_le_mul_left P h
    rw [Nat.mul_succ,Nat.mul_succ] at h5
    omega
  rw [h4,Nat.mul_succ]
 obtain ⟨E,rfl⟩:∃ E,D=E + 1:=⟨D - 1,by omega⟩
 rw [Nat.add_mul,Nat.one_mul] at hsub h2
 have hc2:c2=1:=by
  rcases Nat.lt_trichotomy c2 1 with h | h | h
  ·obtain rfl:c2=0:=by omega
   rw [Nat.mul_zero] at hadd;omega
  ·exact h
  ·have h5:=Nat.mul_le_mul_left P (show 2≤c2 from h)
   omega
 subst hc2
 rw [Nat.mul_one] at hadd
 have hU2:U=s2 + V * E:=by rw [Nat.mul_comm];omega
 have hsV:s2 < V:=by omega
 have hV:0 < V:=by omega
 rw [hU2,Nat.add_mul_div_left _ _ hV,Nat.add_mul_mod_self_left,Nat.div_eq_of_lt hsV,Nat.mod_eq_of_lt hsV]
 exact ⟨hD,by omega,rfl⟩
theorem top_le {U V hi U' P T u2 r lo:Nat} (hU:U=U' + P * T) (hT:T=(u2 * W32 + r) * W32 + lo) (hV:V≤P * W32 * (hi + 1)) (hUV:U < V * W32):u2≤hi:=by
 rcases Nat.lt_or_ge hi u2 with h | h
 ·exfalso
  have h1:P * W32 * (hi + 1) * W32≤P * W32 * u2 * W32:=Nat.mul_le_mul_right _ (Nat.mul_le_mul_left _ h)
  have h2:=Nat.mul_le_mul_right W32 hV
  have h3:P * W32 * u2 * W32=P * (u2 * W32 * W32):=by simp only [Nat.mul_assoc,Nat.mul_left_comm,Nat.mul_comm]
  have h4:P * (u2 * W32 * W32)≤P * T:=Nat.mul_le_mul_left _ (by rw [hT,Nat.add_mul];omega)
  omega
 ·exact h
theorem long_step {X V H low P U:Nat} (hX:X=V * (P * W32 * H) + (low + P * U)) (hlt:low + P * U < V * (P * W32)) (hlow:low < P) (hV:0 < V) :
 U < V * W32∧X=V * (P * (U / V + W32 * H)) + (low + P * (U % V))∧low + P * (U % V) < V * P:=by
 refine ⟨?_,?_,?_⟩
 ·rcases Nat.lt_or_ge U (V * W32) with h | h
  ·exact h
  ·have h1:=Nat.mul_le_mul_left P h
   rw [Nat.mul_left_comm] at h1
   omega
 ·have h1:=Nat.mod_add_div U V
  have h2:P * U=P * (U % V) + V * (P * (U / V)):=by
   rw [Nat.mul_left_comm V,← Nat.mul_add,h1]
  rw [hX,h2,Nat.mul_add P,Nat.mul_add V,← Nat.mul_assoc P W32 H]
  omega
 ·have h1:P * (U % V + 1)≤P * V:=Nat.mul_le_mul_left _ (Nat.mod_lt _ hV)
  rw [Nat.mul_add,Nat.mul_one,Nat.mul_comm P V] at h1
  omega
theorem long_take {l:List Nat} {i n:Nat} (h:i + n < l.length):val W32 (l.take (n + (i + 1)))=val W32 (l.take i) + W32 ^ i * val W32 ((l.drop i).take (n + 1)):=by
 have e:l.take (n + (i + 1))=l.take i ++ (l.drop i).take (n + 1):=by
  rw [show n + (i + 1)=i + (n + 1) by omega,List.take_add]
 rw [e,val_append,List.length_take,Nat.min_eq_left (by omega)]
theorem long_left {l seg:List Nat} {i n:Nat} (h:i + n < l.length) (hs:seg.length=n):val W32 ((l.take i ++ (seg ++ l.drop (i + n))).take (n + i))=val W32 (l.take i) + W32 ^ i * val W32 seg:=by
 have e:(l.take i ++ (seg ++ l.drop (i + n))).take (n + i)=l.take i ++ seg:=by
  rw [← List.append_assoc,List.take_append_of_le_length (by rw [List.length_append,List.length_take];omega),List.take_of_length_le (by rw [List.length_append,List.length_take];omega)]
 rw [e,val_append,List.length_take,Nat.min_eq_left (by omega)]
theorem long_set {h:List Nat} {i q:Nat}:(List.replicate (i + 1) 0 ++ h).set i q=List.replicate i 0 ++ (q :: h):=by
 have e:List.replicate (i + 1) 0 ++ h=List.replicate i 0 ++ (0 :: h):=by
  rw [List.replicate_succ',List.append_assoc];rfl
 rw [e,List.set_append,if_neg (by simp),List.length_replicate,Nat.sub_self,List.set_cons_zero]
theorem long_get {h:List Nat} {i:Nat}:(List.replicate (i + 1) 0 ++ h)[i]? = some 0:=by
 rw [List.getElem?_append_left (by simp)];simp
theorem norm_bits {t L:Nat} (h1:1≤L) (h2:2 ^ (L - 1)≤t) (h3:t < 2 ^ L) (hL:L≤32):2147483648≤t * 2 ^ (32 - L)∧t * 2 ^ (32 - L) < W32:=by
 constructor
 ·have h4:=Nat.mul_le_mul_right (2 ^ (32 - L)) h2
  rw [← Nat.pow_add,show L - 1 + (32 - L)=31 by omega] at h4
  exact h4
 ·have h4:=Nat.mul_lt_mul_of_pos_right h3 (Nat.pow_pos (n:=32 - L) (show 0 < 2 by decide))
  rw [← Nat.pow_add,show L + (32 - L)=32 by omega] at h4
  exact h4
theorem top_word {m n i1:Nat} (h:dl m=n) (hi:i1 + 1=n):∃ t,(digs W32 m)[i1]? = some t∧1≤t∧t < W32∧t * W32 ^ i1≤m∧m < (t + 1) * W32 ^ i1:=by
 have hl:(digs W32 m).length=i1 + 1:=by unfold dl at h;omega
 obtain ⟨t,ht⟩:∃ t,(digs W32 m)[i1]? = some t:=⟨_,List.getElem?_eq_getElem (by omega)⟩
 have e:=val_take_succ W32 ht
 rw [List.take_of_length_le (by omega),val_digs32] at e
 have hlt:=val_take_lt (good_digs m) i1
 have hne:t ≠ 0:=digs_last (b:=W32) (by decide) m t (by rw [List.getLast?_eq_getElem?,hl,Nat.add_sub_cancel];exact ht)
 refine ⟨t,ht,by omega,good_digs m t (List.mem_of_getElem? ht),?_,?_⟩
 ·rw [Nat.mul_comm];omega
 ·rw [Nat.add_mul,Nat.one_mul,Nat.mul_comm];omega
theorem norm_list {R:List Nat} {m n i1 t s:Nat} (hR:R.length=n + 1) (hg:Good32 R) (hv:val W32 R=m * 2 ^ s) (hi:i1 + 1=n) (h1:t * W32 ^ i1≤m) (h2:m < (t + 1) * W32 ^ i1) (hb:2147483648≤t * 2 ^ s) (ht:t * 2 ^ s < W32) (hs:s≤31) :
 val W32 (R.take n)=m * 2 ^ s∧(R.take n).length=n∧Good32 (R.take n) ∧ ∀ x,(R.take n)[i1]? = some x→2147483648≤x:=by
 have hlen:(R.take n).length=n:=by rw [List.length_take];omega
 have hgt:=good_take hg n
 obtain ⟨z,hz⟩:∃ z,R[n]? = some z:=⟨_,List.getElem?_eq_getElem (by omega)⟩
 have e:=val_take_succ W32 hz
 rw [List.take_of_length_le (by omega),hv] at e
 have hlt:=val_take_lt hg n
 have hsp:=W32_split hs
 have hm:m * 2 ^ s < W32 ^ n:=by
  have h3:=Nat.mul_lt_mul_of_pos_right h2 (Nat.pow_pos (n:=s) (show 0 < 2 by decide))
  have h4:(t + 1) * 2 ^ s≤W32:=by
   have h5:t < 2 ^ (32 - s):=by
    rw [hsp,Nat.mul_comm] at ht
    exact Nat.lt_of_mul_lt_mul_left ht
   have h6:=Nat.mul_le_mul_right (2 ^ s) (show t + 1≤2 ^ (32 - s) from h5)
   rw [Nat.mul_comm (2 ^ (32 - s)),← hsp] at h6
   exact h6
  have h7:=Nat.mul_le_mul_right (W32 ^ i1) h4
  rw [← hi,Nat.pow_succ,Nat.mul_comm (W32 ^ i1)]
  rw [Nat.mul_right_comm] at h7
  omega
 have hz0:z=0:=by
  rcases Nat.eq_zero_or_pos z with h | h
  ·exact h
  ·have:=Nat.mul_le_mul_left (W32 ^ n) h
   omega
 rw [hz0,Nat.mul_zero,Nat.add_zero] at e
 refine ⟨e.symm,hlen,hgt,fun x hx=>?_⟩
 rcases Nat.lt_or_ge x 2147483648 with hxl | hxl
 ·exfalso
  have e2:=val_take_succ W32 hx
  rw [List.take_of_length_le (by omega),← e] at e2
  have h3:=val_take_lt hgt i1
  have h4:=Nat.mul_le_mul_right (2 ^ s) h1
  rw [Nat.mul_right_comm] at h4
  have h5:=Nat.mul_le_mul_right (W32 ^ i1) (show x + 1≤t * 2 ^ s by omega)
  rw [Nat.add_mul,Nat.one_mul,Nat.mul_comm x] at h5
  omega
 ·exact hxl
theorem long_start {m m' a b s:Nat} (ha:m < W32 ^ a) (hb:W32 ^ b≤m') (hab:b≤a):m * 2 ^ s < m' * 2 ^ s * W32 ^ (a - b):=by
 have h1:=Nat.mul_le_mul_right (W32 ^ (a - b)) hb
 rw [← Nat.pow_add,show b + (a - b)=a by omega] at h1
 rw [Nat.mul_right_comm]
 exact Nat.mul_lt_mul_of_pos_right (Nat.lt_of_lt_of_le ha h1) (Nat.pow_pos (by decide))
theorem long_end {X V H r m m' s:Nat} (hX:X=V * H + r) (hr:r < V) (h1:X=m * 2 ^ s) (h2:V=m' * 2 ^ s):H=m / m'∧r / 2 ^ s=m % m':=by
 have hp:0 < 2 ^ s:=Nat.pow_pos (by decide)
 have e1:X / V=m / m':=by rw [h1,h2,Nat.mul_div_mul_right _ _ hp]
 have e2:X % V=m % m' * 2 ^ s:=by rw [h1,h2,Nat.mul_mod_mul_right]
 constructor
 ·rw [← e1,hX,Nat.mul_add_div (by omega),Nat.div_eq_of_lt hr,Nat.add_zero]
 ·rw [hX,Nat.mul_add_mod,Nat.mod_eq_of_lt hr] at e2
  rw [e2,Nat.mul_div_cancel _ hp]
def StepPost (w:World) (g o k U V:Nat) (l:List Nat) (e:Ending) (w':World):Prop :=
 ∃ (seg:List Nat),e = .returned (.int .u32 ((U / V:Nat):Int))∧Hid (U / V < W32)∧Hid (seg.length=k)∧Hid (Good32 seg)∧Hid (val W32 seg=U % V) ∧
  Hid (Blk U32 142 w' g (l.take o ++ (seg ++ l.drop (o + k))))∧Hid (w.grownBy w' (some g))
structure Guess (U V D:Nat):Prop where
 lt:D < W32
 hi:U < (D + 1) * V
 lo:D * V≤U + V
theorem grown_of_drew {w w':World} {g q:Nat} (h:(w.drewN q).grownBy w' (some g)):w.grownBy w' (some g) :=
 grown_trans (grown_drewN (World.grownBy.refl w (some g)) q) h
theorem guess_any {ad:Addr} {g o k i1 i2 c c' U V B:Nat} {l ys:List Nat} {w:World} (hk:k≤1000000) (hi1:i1 + 1=k) (hi2:i2 + 2=k) (hb:Blk U32 142 w g l) (hr:Rd U32 w B (some ad) ys) (hys:ys.length=k) (ho:o + k < l.length) (hl:Good32 l) (hy:Good32 ys)
 (hU:val W32 ((l.drop o).take (k + 1))=U) (hV:val W32 ys=V) (hUV:U < V * W32) (htop:∀ x,ys[i1]? = some x→2147483648≤x) :
 Calls Tryz.prog 198 #[.slice (some ⟨g,o,none⟩) (k + 1) c,.slice (some ad) k c'] w fun e w'=>∃ D q,e = .returned (.int .u32 ((D:Nat):Int))∧w'=w.drewN q∧Hid (Guess U V D):=by
 have gl:∀ i,i≤k → ∃ u,l[o + i]? = some u∧u < W32∧(l.drop o)[i]? = some u:=fun i hi=>by
  have h1:o + i < l.length:=by omega
  exact ⟨l[o + i],List.getElem?_eq_getElem h1,hl _ (List.getElem_mem _),by rw [List.getElem?_drop];exact List.getElem?_eq_getElem h1⟩
 have gy:∀ i,i < k → ∃ u,ys[i]? = some u∧u < W32∧w.cell? (ad.add i)=some (.int .u32 (u:Int)):=fun i hi=>by
  have h1:i < ys.length:=by omega
  obtain ⟨ad',e,_,hc⟩:=hr.at_ h1
  injection e with e
  exact ⟨ys[i],List.getElem?_eq_getElem h1,hy _ (List.getElem_mem _),by rw [e];exact hc⟩
 obtain ⟨u2,a2,b2,d2⟩:=gl k (Nat.le_refl _)
 obtain ⟨u1,a1,b1,d1⟩:=gl i1 (by omega)
 obtain ⟨u0,a0,b0,d0⟩:=gl i2 (by omega)
 obtain ⟨hi,x1,y1,z1⟩:=gy i1 (by omega)
 obtain ⟨lo,x0,y0,z0⟩:=gy i2 (by omega)
 have eU:=val_three W32 hi1 hi2 d0 d1 d2
 have eV:=val_two W32 hi1 hi2 hys x0 x1
 rw [hU] at eU
 rw [hV] at eV
 have hU':=val_take_lt (good_drop hl o) i2
 have hV':=val_take_lt hy i2
 have hh:=htop hi x1
 have hVle:V≤W32 ^ i2 * W32 * (hi + 1):=by
  have h1:W32 ^ i2 * (hi * W32 + lo + 1)≤W32 ^ i2 * (W32 * (hi + 1)):=Nat.mul_le_mul_left _ (by rw [Nat.mul_add,Nat.mul_one,Nat.mul_comm];omega)
  rw [Nat.mul_add,Nat.mul_one,← Nat.mul_assoc] at h1
  omega
 have hle:u2≤hi:=top_le (U':=val W32 ((l.drop o).take i2)) (P:=W32 ^ i2) eU rfl hVle hUV
 refine (guessDigit_any hk hi1 hi2 (hb.cell a2) (hb.cell a1) (hb.cell a0) z1 z0 hle b1 b0 y1 y0 hh).mono ?_
 rintro e w' ⟨D,rfl,⟨q,rfl⟩,hD,h1,h2⟩
 obtain ⟨r1,r2⟩:=guess_digit eU eV hU' hV' (by omega) hD hUV h1 h2
 exact ⟨D,q,rfl,rfl,⟨hD,r1,r2⟩⟩
theorem take_step {l:List Nat} {o k t:Nat} (ht:l[o + k]? = some t):val W32 ((l.drop o).take (k + 1))=val W32 ((l.drop o).take k) + W32 ^ k * t :=
 val_take_succ W32 (by rw [List.getElem?_drop];exact ht)
theorem mid_take {l seg:List Nat} {o k:Nat} (ho:o≤l.length) (hs:seg.length=k):((l.take o ++ (seg ++ l.drop (o + k))).drop o).take k=seg:=by
 rw [List.drop_append_of_le_length (by rw [List.length_take];omega),List.drop_of_length_le (by rw [List.length_take];omega),List.nil_append,List.take_append_of_le_length (by omega),List.take_of_length_le (by omega)]
theorem mid_again {l seg seg2:List Nat} {o k:Nat} (ho:o≤l.length) (hs:seg.length=k) :
 (l.take o ++ (seg ++ l.drop (o + k))).take o ++ (seg2 ++ (l.take o ++ (seg ++ l.drop (o + k))).drop (o + k))=l.take o ++ (seg2 ++ l.drop (o + k)):=by
 have h1:(l.take o).length=o:=by rw [List.length_take];omega
 rw [List.take_append_of_le_length (by omega),List.take_of_length_le (by omega)]
 congr 2
 rw [← List.append_assoc,List.drop_append,List.drop_of_length_le (by simp;omega),List.nil_append,List.length_append,h1,hs,Nat.sub_self,List.drop_zero]
theorem dec_mod {D:Nat} (h1:1≤D) (h2:D < W32):((D:Int) - 1) % 4294967296=((D - 1:Nat):Int):=by
 rw [W32_eq] at h2
 omega
theorem step_lt {seg:List Nat} {k:Nat} (h:seg.length=k) (hg:Good32 seg):val W32 seg < W32 ^ k:=by
 rw [← h];exact val_lt seg hg
theorem divideStep_any {ad:Addr} {g o k i1 i2 c c' U V B:Nat} {l ys:List Nat} {w:World} (hk:k≤100000) (hi1:i1 + 1=k) (hi2:i2 + 2=k) (hc:k + 1≤c) (hb:Blk U32 142 w g l) (hr:Rd U32 w B (some ad) ys) (hB:B≤g) (hys:ys.length=k) (ho:o + k < l.length) (hlim:l.length≤1000000) (hl:Good32 l) (hy:Good32 ys)
 (hU:val W32 ((l.drop o).take (k + 1))=U) (hV:val W32 ys=V) (hUV:U < V * W32) (htop:∀ x,ys[i1]? = some x→2147483648≤x) :
 Calls Tryz.prog 149 #[.slice (some ⟨g,o,none⟩) (k + 1) c,.slice (some ad) k c'] w (StepPost w g o k U V l):=by
 obtain ⟨t,ht⟩:∃ t,l[o + k]? = some t:=⟨_,List.getElem?_eq_getElem ho⟩
 have CG:=hide (guess_any (c:=c) (c':=c') (by omega) hi1 hi2 hb hr hys ho hl hy hU hV hUV htop)
 have CS:Hid (∀ (q D:Nat),D < W32→Calls Tryz.prog 199 #[.slice (some ⟨g,o,none⟩) (k + 1) c,.slice (some ad) k c',.int .u32 (D:Int)] (w.drewN q) (SubMulPost (w.drewN q) g o k D t l ys)):=fun q D hD =>
  subMultiple_any (hb.drewN q) (hr.drewN q) hB hys.symm ho ht hl hy hD hlim
 have CA:Hid (∀ (W:World) (seg:List Nat) (d:Nat),seg.length=k→Good32 seg→Blk U32 142 W g (l.take o ++ (seg ++ l.drop (o + k)))→w.grownBy W (some g)→Calls Tryz.prog 187 #[.slice (some ⟨g,o,none⟩) k d,.slice (some ad) k c',.int .u32 1] W (AddMulPost W g o k 1 (l.take o ++ (seg ++ l.drop (o + k))) ys)):=fun W seg d hs hg hblk hgr =>
  addMultiple_any (f:=1) hblk (hr.grown hgr hB) hB hys.symm (by simp [hs];omega) (good_app (good_take hl _) (good_app hg (good_drop hl _))) hy (by decide) (by simp [hs];omega)
 have hU2:=hU
 rw [take_step ht] at hU2
 have HU:=hide hU2
 have HLOW:=hide (val_take_lt (good_drop hl o) k)
 have HVP:Hid (V≤W32 ^ k):=by
  have h:=val_lt ys hy
  rw [hys,hV] at h
  exact Nat.le_of_lt h
 have HO:=hide (show o≤l.length by omega)
 have HV:=hide hV
 clear hU hU2 hV hUV htop hl hy hb hr ho ht hlim hys
 go_enter Tryz.func149,Tryz.ntmps149
 go_wp2_with (first | (go_at_call 198;go_must (refine CG.out.mono ?_);rintro e w1 ⟨D,q,rfl,rfl,HG⟩) | (go_at_call 199;go_must (refine (CS.out q D HG.out.lt).mono ?_);rintro e w2 ⟨seg,cr,rfl,hsl,hsg,hcr,hval,hblk,hgr⟩;have HBLK:=hide hblk;have HGR:=hide (grown_of_drew hgr);clear hblk hgr;by_cases hct:t < cr) | (go_at_call 187;go_must (refine (CA.out _ seg _ hsl.out hsg.out HBLK.out HGR.out).mono ?_);rintro e w3 ⟨seg2,c2,rfl,hsl2,hsg2,hcr2,hval2,hblk2,hgr2⟩))
 ·obtain ⟨hs1,hr1,hr2⟩:=step_over (s:=val W32 seg) (s2:=val W32 seg2) (c2:=c2) (step_lt hsl.out hsg.out) (step_lt hsl2.out hsg2.out) HVP.out HU.out.symm HLOW.out (by rw [← HV.out];exact hval.out) HG.out.lo hct (by
   have h1:=hval2.out
   rw [mid_take HO.out hsl.out,Nat.one_mul,HV.out] at h1
   exact h1)
  go_ret
  refine ⟨seg2,?_,?_,hsl2,hsg2,hr2.symm,?_,grown_trans HGR.out hgr2⟩
  ·rw [hr1,← dec_mod hs1 HG.out.lt];rfl
  ·unfold Hid;rw [hr1];exact Nat.lt_of_le_of_lt (Nat.sub_le _ _) HG.out.lt
  ·unfold Hid
   rw [← mid_again HO.out hsl.out]
   exact hblk2
 ·obtain ⟨hr1,hr2⟩:=step_right (s:=val W32 seg) HVP.out HU.out.symm (by rw [← HV.out];exact hval.out) HG.out.hi (by omega)
  go_ret
  exact ⟨seg,by rw [hr1];rfl,by unfold Hid;rw [hr1];exact HG.out.lt,hsl,hsg,hr2.symm,HBLK,HGR⟩
end Go.Proofs.YtfflmmbhpchloaaGreatDoor
end
