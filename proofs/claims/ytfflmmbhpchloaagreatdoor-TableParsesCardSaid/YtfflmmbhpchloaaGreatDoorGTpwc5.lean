/- Each theorem here says its own conditions. -/
import Derived.Test.YtfflmmbhpchloaaGreatDoorGTpwc4
import Derived.Laws.CopyOwn
import Derived.OwnWalk
import Derived.Deep.DeepMust
import Derived.Laws.Bits64
import Derived.Laws.BitsAllLaws
import Derived.Deep.AppendLies
set_option maxRecDepth 100000
set_option maxHeartbeats 16000000
section
open Go.RowKit
namespace Go.Proofs.YtfflmmbhpchloaaGreatDoor
def Blk (f:Nat→Value) (t:TypeId) (w:World) (g:Nat) (l:List Nat):Prop:=w.heap[g]? = some (.cells (l.map f).toArray t (0,0))
section
variable {f:Nat→Value} {t:TypeId} {w w':World} {g:Nat} {l:List Nat}
theorem Blk.lt (h:Blk f t w g l):g < w.heap.size:=by
 rcases Nat.lt_or_ge g w.heap.size with hlt | hge
 ·exact hlt
 ·unfold Blk at h;rw [Array.getElem?_eq_none hge] at h;cases h
theorem Blk.cell (h:Blk f t w g l) {i x:Nat} (hx:l[i]? = some x):w.cell? ⟨g,i,none⟩=some (f x):=by
 rw [cell_of_row w g i _ t (0,0) h];simp [hx]
theorem Blk.frozen (h:Blk f t w g l) (i:Nat):w.frozen? ⟨g,i,none⟩=false:=by
 unfold Blk at h;simp [World.frozen?,h]
theorem Blk.drewN (h:Blk f t w g l) (n:Nat):Blk f t (w.drewN n) g l:=h
theorem Blk.alloc (h:Blk f t w g l) (o:Obj):Blk f t (w.alloc o) g l:=(Below.heap_alloc w o g h.lt).trans h
theorem Blk.set_ (h:Blk f t w g l) (i v:Nat):Blk f t (w.setCell ⟨g,i,none⟩ (f v)) g (l.set i v):=by
 unfold Blk at h ⊢
 simp [World.setCell,Array.getElem?_modify,h,List.map_set]
theorem Blk.far (h:Blk f t w g l) {p:Addr} (hp:g ≠ p.block) (u:Value):Blk f t (w.setCell p u) g l:=(Below.heap_setCell w p u g hp).trans h
theorem Blk.below {B:Nat} (h:Blk f t w g l) (hb:Below B w w') (hg:g < B):Blk f t w' g l:=(hb.block g hg).trans h
theorem Blk.grown {row:Option Nat} (h:Blk f t w g l) (hb:w.grownBy w' row) (hg:some g ≠ row):Blk f t w' g l:=(hb.block g h.lt hg).trans h
theorem Blk.rd (h:Blk f t w g l) {B:Nat} (hB:g < B) (off k:Nat):Rd f w B (some ⟨g,off,none⟩) ((l.drop off).take k):=fun _=>by
 refine ⟨_,rfl,hB,fun j x hx=>?_⟩
 rw [List.getElem?_take] at hx
 split at hx
 ·rw [List.getElem?_drop] at hx
  have e:(⟨g,off,none⟩:Addr).add j=⟨g,off + j,none⟩:=by unfold Addr.add;split <;> simp_all
  rw [e]
  exact h.cell hx
 ·cases hx
theorem Blk.rd0 (h:Blk f t w g l) {B:Nat} (hB:g < B):Rd f w B (some ⟨g,0,none⟩) l:=by
 have:=h.rd hB 0 l.length
 rwa [List.drop_zero,List.take_length] at this
end
theorem made_zeros (w:World) (t:TypeId) (k:IntKind) (n:Nat):Blk (fun x=>.int k (x:Int)) t (w.alloc (.cells (madeCells #[.int k 0] n) t)) w.heap.size (List.replicate n 0):=by
 unfold Blk
 rw [heap_alloc_new]
 congr 2
 apply Array.ext
 ·simp [size_madeCells]
 ·intro i h1 h2
  simp [madeCells,Nat.mod_one]
theorem Tryz.infoU32:(Tryz.prog.info? 142).map (fun i=>(i.zero,i.size,i.bytes))=some (some (.int .u32 0),1,4):=by kernel_rfl
theorem Tryz.infoU8:(Tryz.prog.info? 5).map (fun i=>(i.zero,i.size,i.bytes))=some (some (.int .u8 0),1,1):=by kernel_rfl
theorem make_words (n:Nat) (hn:n≤1000000) (w:World):(Instr.makeSlice 40 (.int .i64 (n:Int)) (.int .i64 (n:Int))).run Tryz.prog w =
 .ok (.slice (some ⟨w.heap.size,0,none⟩) n n) (w.alloc (.cells (madeCells #[.int .u32 0] n) 142)):=by
 obtain ⟨i0,hi0,hz0,hz1,hz2⟩:=info_parts Tryz.infoU32
 have h:=run_make (P:=Tryz.prog) w 40 142 i0 (.int .u32 0) Tryz.underlying40 hi0 hz0 .i64 .i64 n n (by omega) (by omega) (by rw [hz2];omega) (by omega)
 simpa [hz1,Value.cells] using h
theorem made_u32 (w:World) (n:Nat):Blk U32 142 (w.alloc (.cells (madeCells #[.int .u32 0] n) 142)) w.heap.size (List.replicate n 0):=made_zeros w _ _ n
theorem wpList_made {P:Program} {w w1:World} {ops:Array Oper} {rest:List Oper} {o:Oper} {a:Act} {Q:Exit→Act→World→Prop} (hgd:o.guard=none) (l c:Operand) (t:TypeId) (hop:o.op=Op.makeSlice t l c)
 (v u r:Value) (hl:a.eval l=v) (hc:a.eval c=u) (hrun:(Instr.makeSlice t v u).run P w = .ok r w1) (h:wpList P ops Q rest (a.put o.dst r) w1):wpList P ops Q (o :: rest) a w:=by
 refine wpList_plain hgd fun K hK=>?_
 unfold Oper.wp
 simp [execOp,hop,hl,hc,hrun,Result.andThen]
 exact hK _ _ h
theorem wpList_words {w:World} {ops:Array Oper} {rest:List Oper} {o:Oper} {a:Act} {Q:Exit→Act→World→Prop} (hgd:o.guard=none) (l c:Operand) (hop:o.op=Op.makeSlice 40 l c)
 (n:Nat) (hl:a.eval l = .int .i64 (n:Int)) (hc:a.eval c = .int .i64 (n:Int)) (hn:n≤1000000)
 (h:∀ g w',Hid (g=w.heap.size)→Hid (Blk U32 142 w' g (List.replicate n 0))→Below w.heap.size w w'→wpList Tryz.prog ops Q rest (a.put o.dst (.slice (some ⟨g,0,none⟩) n n)) w'):wpList Tryz.prog ops Q (o :: rest) a w :=
 wpList_made hgd l c _ hop _ _ _ hl hc (make_words n hn w) (h _ _ rfl (made_u32 w n) ((Below.refl _ _).alloc (Nat.le_refl _) _))
theorem nth_U32 {l:List Nat} {B:Nat} {w:World} {A:Option Addr} (h:Rd U32 w B A l):0 < (l.map U32).length → ∃ ad,A=some ad ∧ ∀ j v,(l.map U32)[j]? = some v→w.cell? (ad.add j)=some v:=fun h0=>by
 obtain ⟨ad,e,_,hc⟩:=h (by simpa using h0)
 refine ⟨ad,e,fun j v hv=>?_⟩
 rw [List.getElem?_map] at hv
 cases hx:l[j]? with
 | none=>rw [hx] at hv;cases hv
 | some x=>rw [hx] at hv;cases hv;exact hc j x hx
theorem one_U32 (l:List Nat):∀ v ∈ l.map U32,v.oneCell'=true:=by
 intro v hv
 obtain ⟨x,_,rfl⟩:=List.mem_map.1 hv
 rfl
theorem splice_all {α:Type} (L cs:List α) (h:L.length=cs.length):splice L 0 cs=cs:=by simp [splice,h]
def NewWords (w:World) (ws:List Nat) (e:Ending) (w':World):Prop:=∃ g,e = .returned (.slice (some ⟨g,0,none⟩) ws.length ws.length)∧w.heap.size≤g∧Blk U32 142 w' g ws∧Below w.heap.size w w'
theorem fresh_any {A:Option Addr} {ws:List Nat} {n c:Nat} {w:World} (hn:n=ws.length) (h:Rd U32 w w.heap.size A ws) (hl:n≤1000000) :
 Calls Tryz.prog 74 #[.slice A n c] w (NewWords w ws):=by
 have HN:=hide hn
 have HR:=hide h
 clear hn h
 go_enter Tryz.func74,Tryz.ntmps74
 go_wp2_with (first | (at_make;go_must (refine wpList_words rfl _ _ rfl n rfl rfl hl ?_;intro g w1 hg hb1 hbel)) | (refine wpList_copy_splice (o:=⟨some 9,_,_,_,_,_⟩) rfl (.tmp 7) (.tmp 8) _ _ rfl 142 Tryz.underlying40 (by kernel_rfl) _ _ _ _ _ _ rfl rfl g 0 ((List.replicate n 0).map U32) 142 hb1.out (ws.map U32) (by rw [List.length_map,← HN.out];exact (Nat.min_self n).symm) (fun h0=>⟨rfl,nth_U32 (HR.out.below hbel) h0⟩) (by simp [← HN.out]) (one_U32 ws) w.heap.size w hbel (by rw [hg.out];exact Nat.le_refl _) ?_;intro w2 hb2 hbel2))
 go_ret
 refine ⟨g,by rw [← HN.out];rfl,by rw [hg.out];exact Nat.le_refl _,?_,hbel2⟩
 have h2:=hb2.out
 rw [splice_all _ _ (by simp [← HN.out])] at h2
 exact h2
def NewCan (w:World) (m:Nat) (e:Ending) (w':World):Prop:=∃ g,e = .returned (.slice (some ⟨g,0,none⟩) (dl m) (dl m))∧Hid (w.heap.size≤g)∧Hid (Blk U32 142 w' g (digs W32 m))∧Hid (Below w.heap.size w w')
theorem fresh_can {A:Option Addr} {m c:Nat} {w:World} (h:Rd U32 w w.heap.size A (digs W32 m)) (hl:dl m≤1000000):Calls Tryz.prog 74 #[.slice A (dl m) c] w (NewCan w m) :=
 (fresh_any (show dl m=(digs W32 m).length from rfl) h hl).mono fun _ _ h=>h
theorem val_take_succ (b:Nat) {L:List Nat} {i x:Nat} (h:L[i]? = some x):val b (L.take (i + 1))=val b (L.take i) + b ^ i * x:=by
 have hi:i < L.length:=by
  rcases Nat.lt_or_ge i L.length with h1 | h1
  ·exact h1
  ·rw [List.getElem?_eq_none h1] at h;cases h
 rw [List.take_succ_eq_append_getElem hi,val_snoc,List.length_take,Nat.min_eq_left (by omega)]
 rw [List.getElem?_eq_getElem hi] at h
 injection h with h
 rw [h]
theorem set_mid {P seg l:List Nat} {o i v:Nat} (hP:P.length=o) (hs:seg.length=i) (hl:o + i < l.length):(P ++ (seg ++ l.drop (o + i))).set (o + i) v=P ++ ((seg ++ [v]) ++ l.drop (o + (i + 1))):=by
 rw [List.set_append,if_neg (by omega),List.set_append,if_neg (by omega),List.drop_eq_getElem_cons hl,show o + i - P.length - seg.length=0 by omega,List.set_cons_zero]
 simp [Nat.add_assoc]
theorem get_mid {P seg l:List Nat} {o i:Nat} (hP:P.length=o) (hs:seg.length=i):(P ++ (seg ++ l.drop (o + i)))[o + i]? = l[o + i]?:=by
 rw [List.getElem?_append_right (by omega),List.getElem?_append_right (by omega),List.getElem?_drop]
 congr 1;omega
theorem good_snoc {l:List Nat} {x:Nat} (h:Good32 l) (hx:x < W32):Good32 (l ++ [x]):=by
 intro y hy
 rcases List.mem_append.1 hy with hy | hy
 ·exact h y hy
 ·simp at hy;subst hy;exact hx
theorem addmul_math {P V t q r cr y f s VA VY W:Nat} (h:V + P * cr=VA + f * VY) (ht:t=cr + (y * f + s)) (hq:r + W * q=t):V + P * r + P * W * q=VA + P * s + f * (VY + P * y):=by
 have e1:P * r + P * W * q=P * t:=by rw [← hq,Nat.mul_add,Nat.mul_assoc]
 have e2:P * t=P * cr + (P * (y * f) + P * s):=by rw [ht,Nat.mul_add,Nat.mul_add]
 have e3:f * (P * y)=P * (y * f):=by rw [Nat.mul_comm y f,Nat.mul_left_comm]
 rw [Nat.mul_add f,e3];omega
theorem prod_le {y f:Nat} (hy:y < W32) (hf:f < W32):y * f≤4294967295 * 4294967295:=Nat.mul_le_mul (by rw [W32_eq] at hy;omega) (by rw [W32_eq] at hf;omega)
theorem u64_nat {n:Nat} (h:n≤18446744073709551615):IntKind.u64.wrap (n:Int)=(n:Int):=IntWalk.u64_in _ ⟨by omega,by omega⟩
theorem u64_word {n:Nat} (h:n < W32):IntKind.u64.wrap (n:Int)=(n:Int):=u64_nat (by rw [W32_eq] at h;omega)
theorem addmul_wrap {y f s cr:Nat} (hy:y < W32) (hf:f < W32) (hs:s < W32) (hc:cr < W32) :
 IntKind.u64.wrap ((cr:Int) + IntKind.u64.wrap (IntKind.u64.wrap (IntKind.u64.wrap (y:Int) * IntKind.u64.wrap (f:Int)) + IntKind.u64.wrap (s:Int)))=((cr + (y * f + s):Nat):Int):=by
 have hp:=prod_le hy hf
 rw [W32_eq] at hs hc
 rw [u64_word hy,u64_word hf,u64_word (n:=s) (by rw [W32_eq];exact hs),← Int.natCast_mul,u64_nat (by omega),← Int.natCast_add,u64_nat (by omega),← Int.natCast_add,u64_nat (by omega)]
theorem hi32 (t:Nat):((t:Nat):Int) / 4294967296=((t / W32:Nat):Int):=rfl
theorem lo32 (t:Nat):((t:Nat):Int) % 4294967296=((t % W32:Nat):Int):=rfl
theorem lohi (t:Nat):t % W32 + W32 * (t / W32)=t:=Nat.mod_add_div t W32
theorem lo_lt (t:Nat):t % W32 < W32:=Nat.mod_lt _ (by decide)
theorem addmul_hi {y f s cr:Nat} (hy:y < W32) (hf:f < W32) (hs:s < W32) (hc:cr < W32):(cr + (y * f + s)) / W32 < W32:=by
 have hp:=prod_le hy hf
 rw [W32_eq] at hs hc ⊢;omega
theorem mul_round {seg seg2:List Nat} {i k c word m' X z:Nat} (hlen:seg.length=i + k) (h2:seg2.length=k) (hv:val W32 seg=X * m')
 (h:val W32 seg2 + W32 ^ k * c=val W32 (((seg ++ List.replicate z 0).drop i).take k) + word * m'):val W32 (seg.take i ++ (seg2 ++ [c]))=(X + W32 ^ i * word) * m':=by
 rw [val_append,val_snoc,h2,List.length_take,Nat.min_eq_left (by omega),h]
 have e1:((seg ++ List.replicate z 0).drop i).take k=seg.drop i:=by
  rw [List.drop_append_of_le_length (by omega),List.take_append_of_le_length (by rw [List.length_drop];omega),List.take_of_length_le (by rw [List.length_drop];omega)]
 have e2:val W32 seg=val W32 (seg.take i) + W32 ^ i * val W32 (seg.drop i):=by
  have:=val_append W32 (seg.take i) (seg.drop i)
  rwa [List.take_append_drop,List.length_take,Nat.min_eq_left (by omega)] at this
 rw [e1,Nat.mul_add,← Nat.add_assoc,← e2,hv,Nat.add_mul,Nat.mul_assoc]
theorem mul_list {seg seg2:List Nat} {i k c z:Nat} (hlen:seg.length=i + k) (h2:seg2.length=k) :
 ((seg ++ List.replicate (z + 1) 0).take i ++ (seg2 ++ (seg ++ List.replicate (z + 1) 0).drop (i + k))).set (i + k) c=(seg.take i ++ (seg2 ++ [c])) ++ List.replicate z 0:=by
 rw [List.take_append_of_le_length (by omega),List.drop_append,List.drop_of_length_le (by omega),hlen,Nat.sub_self,List.drop_zero,List.nil_append,List.replicate_succ]
 rw [List.set_append,if_neg (by rw [List.length_take];omega),List.set_append,if_neg (by rw [List.length_take];omega),show i + k - (List.take i seg).length - seg2.length=0 by rw [List.length_take];omega,List.set_cons_zero]
 simp
theorem mul_cell {seg seg2:List Nat} {i k z:Nat} (hlen:seg.length=i + k) (h2:seg2.length=k) :
 ((seg ++ List.replicate (z + 1) 0).take i ++ (seg2 ++ (seg ++ List.replicate (z + 1) 0).drop (i + k)))[i + k]? = some 0:=by
 rw [List.take_append_of_le_length (by omega),List.drop_append,List.drop_of_length_le (by omega),hlen,Nat.sub_self,List.drop_zero,List.nil_append,List.replicate_succ]
 rw [List.getElem?_append_right (by rw [List.length_take];omega),List.getElem?_append_right (by rw [List.length_take];omega),show i + k - (List.take i seg).length - seg2.length=0 by rw [List.length_take];omega]
 rfl
theorem good_zeros {l:List Nat} (h:Good32 l) (z:Nat):Good32 (l ++ List.replicate z 0):=by
 intro x hx
 rcases List.mem_append.1 hx with hx | hx
 ·exact h x hx
 ·rw [(List.mem_replicate.1 hx).2];decide
theorem good_app {l m:List Nat} (h:Good32 l) (hm:Good32 m):Good32 (l ++ m):=by
 intro x hx
 rcases List.mem_append.1 hx with hx | hx
 ·exact h x hx
 ·exact hm x hx
theorem good_take {l:List Nat} (h:Good32 l) (k:Nat):Good32 (l.take k):=fun x hx=>h x (List.mem_of_mem_take hx)
theorem good_drop {l:List Nat} (h:Good32 l) (k:Nat):Good32 (l.drop k):=fun x hx=>h x (List.mem_of_mem_drop hx)
theorem good_digs (m:Nat):Good32 (digs W32 m):=digs_lt (by decide) m
theorem val_digs32 (m:Nat):val W32 (digs W32 m)=m:=val_digs (by decide) m
theorem set_zeros {seg:List Nat} {i v z:Nat} (h:seg.length=i):(seg ++ List.replicate (z + 1) 0).set i v=(seg ++ [v]) ++ List.replicate z 0:=by
 rw [List.set_append,if_neg (by omega),h,Nat.sub_self,List.replicate_succ,List.set_cons_zero];simp
theorem get_zeros {seg:List Nat} {i z:Nat} (h:seg.length=i):(seg ++ List.replicate (z + 1) 0)[i]? = some 0:=by
 rw [List.getElem?_append_right (by omega),h,Nat.sub_self];rfl
theorem val_take_more (b:Nat) {L:List Nat} {i:Nat} (h:L.length≤i):val b (L.take (i + 1))=val b (L.take i):=by
 rw [List.take_of_length_le h,List.take_of_length_le (by omega)]
theorem add_math {P V t q r cr x VA VB W:Nat} (h:V + P * cr=VA + VB) (ht:t=cr + x) (hq:r + W * q=t):V + P * r + P * W * q=VA + VB + P * x:=by
 have e1:P * r + P * W * q=P * t:=by rw [← hq,Nat.mul_add,Nat.mul_assoc]
 have e2:P * t=P * cr + P * x:=by rw [ht,Nat.mul_add]
 omega
theorem or_pow (a b i:Nat) (hb:b < 2 ^ i):a * 2 ^ i ||| b=a * 2 ^ i + b:=by
 rw [Nat.mul_comm,← Nat.two_pow_add_eq_or_of_lt hb]
theorem or64 {hi lo:Nat} (h1:hi≤4294967295) (h2:lo≤4294967295):bits .or .u64 ((hi:Int) * 4294967296) (lo:Int)=((hi * 4294967296 + lo:Nat):Int):=by
 rw [show ((hi:Int) * 4294967296)=((hi * 4294967296:Nat):Int) by omega,u64_or_nat _ _ (by omega) (by omega),or_pow hi lo 32 (by omega)]
theorem word_le {x:Nat} (h:x < W32):x≤4294967295:=by rw [W32_eq] at h;omega
theorem exists_zeros {b:Nat} (hb:2≤b) (l:List Nat) (h:∀ x ∈ l,x < b):∃ k,l=digs b (val b l) ++ List.replicate k 0:=by
 induction l with
 | nil=>exact ⟨0,by simp [val,digs_zero]⟩
 | cons x xs ih =>
   obtain ⟨k,hk⟩:=ih fun y hy=>h y (by simp [hy])
   have hx:=h x (by simp)
   rcases Nat.eq_zero_or_pos (val b (x :: xs)) with h0 | h0
   ·refine ⟨k + 1,?_⟩
    simp only [val] at h0
    have hx0:x=0:=by omega
    have hv:val b xs=0:=by
     rcases Nat.eq_zero_or_pos (val b xs) with h1 | h1
     ·exact h1
     ·have:=Nat.mul_pos (show 0 < b by omega) h1;omega
    rw [hv,digs_zero,List.nil_append] at hk
    subst hx0
    rw [show val b (0 :: xs)=0 by simp [val,hv],digs_zero,List.nil_append,List.replicate_succ,← hk]
   ·refine ⟨k,?_⟩
    rw [digs_pos hb h0]
    simp only [val]
    rw [Nat.add_mul_mod_self_left,Nat.mod_eq_of_lt hx,Nat.add_mul_div_left _ _ (by omega),Nat.div_eq_of_lt hx,Nat.zero_add,List.cons_append,← hk]
theorem digit_math {D P g T v m:Nat} (h:D + P * (g + 10 * T * v)=m):(D + P * (g % 10)) + P * 10 * (g / 10 + T * v)=m:=by
 have e:g + 10 * T * v=g % 10 + 10 * (g / 10 + T * v):=by rw [Nat.mul_add,← Nat.add_assoc,Nat.mod_add_div,Nat.mul_assoc]
 rw [← h,e,Nat.mul_add P,Nat.mul_assoc P 10];omega
theorem grown_drewN {a w:World} {row:Option Nat} (h:a.grownBy w row) (n:Nat):a.grownBy (w.drewN n) row:=⟨h.os,h.tape,h.output,h.size,h.block⟩
theorem grown_set {a w:World} {g:Nat} (h:a.grownBy w (some g)) (i:Nat) (u:Value):a.grownBy (w.setCell ⟨g,i,none⟩ u) (some g) :=
 ⟨h.os,h.tape,h.output,by simpa [World.setCell] using h.size,fun k hk hne=>(Below.heap_setCell w _ u k (by rintro rfl;exact hne rfl)).trans (h.block k hk hne)⟩
theorem grown_below {w w':World} {g B:Nat} (h:w.grownBy w' (some g)) (hB:B≤g) (hg:g < w.heap.size):Below B w w' :=
 ⟨h.os,h.tape,h.output,h.size,fun k hk=>h.block k (by omega) (by intro e;injection e;omega)⟩
theorem Rd.grown {f:Nat→Value} {w w':World} {B g:Nat} {A:Option Addr} {xs:List Nat} (h:Rd f w B A xs) (hg:w.grownBy w' (some g)) (hB:B≤g):Rd f w' B A xs:=fun hn=>by
 obtain ⟨ad,e,hb,hc⟩:=h hn
 exact ⟨ad,e,hb,fun j u hu=>hg.cell (hc j u hu) (by rw [block_add];intro e;injection e;omega)⟩
theorem grown_trans {a b c:World} {row:Option Nat} (h:a.grownBy b row) (k:b.grownBy c row):a.grownBy c row :=
 ⟨k.os.trans h.os,k.tape.trans h.tape,k.output.trans h.output,Nat.le_trans h.size k.size,fun i hi hne=>(k.block i (Nat.lt_of_lt_of_le hi h.size) hne).trans (h.block i hi hne)⟩
theorem trim_own {w:World} {g n c v:Nat} {seg:List Nat} (h:Blk U32 142 w g seg) (hn:n=seg.length) (hg:Good32 seg) (hl:n≤1000000) (hc:n≤c) (hv:val W32 seg=v) :
 Calls Tryz.prog 75 #[.slice (some ⟨g,0,none⟩) n c] w fun e w'=>e = .returned (.slice (some ⟨g,0,none⟩) (dl v) c)∧w=w':=by
 subst hn;subst hv
 exact trim_any _ seg c w w.heap.size (h.rd0 h.lt) hg hl hc
theorem can_own {w:World} {g n c v:Nat} {seg:List Nat} (h:Blk U32 142 w g seg) (hn:n=seg.length) (hg:Good32 seg) (hc:n≤c) (hv:val W32 seg=v):Can w w.heap.size (some ⟨g,0,none⟩) c v:=by
 subst hn;subst hv
 have hle:dl (val W32 seg)≤seg.length:=digs_len_le (by decide) seg hg
 refine ⟨by omega,?_⟩
 have:=(h.rd0 h.lt).take (dl (val W32 seg))
 rwa [show seg.take (dl (val W32 seg))=digs W32 (val W32 seg) from digs_take (by decide) seg hg] at this
def NumPost (w:World) (v:Nat) (e:Ending) (w':World):Prop:=∃ A c,e = .returned (.agg #[.slice A (dl v) c])∧Can w' w'.heap.size A c v∧Below w.heap.size w w'
theorem pre3 (w:World) (o1 o2:Obj) (v:Value) (t:TypeId) (k:Nat) :
 Below w.heap.size w ((((w.alloc o1).alloc o2).alloc (.cells #[v] t)).drewN k)∧((((w.alloc o1).alloc o2).alloc (.cells #[v] t)).drewN k).heap.size=w.heap.size + 3 ∧
 ((((w.alloc o1).alloc o2).alloc (.cells #[v] t)).drewN k).heap[w.heap.size + 2]? = some (.cells #[v] t (0,0)):=by
 refine ⟨below_drewN ((((Below.refl _ _).alloc (Nat.le_refl _) _).alloc (by simp) _).alloc (by simp;omega) _) k,by simp,?_⟩
 have:=heap_alloc_new ((w.alloc o1).alloc o2) (.cells #[v] t)
 simpa using this
theorem after3 {w w1:World} {o1 o2:Obj} {v:Value} {t:TypeId} {k:Nat} (h:Below ((((w.alloc o1).alloc o2).alloc (.cells #[v] t)).drewN k).heap.size ((((w.alloc o1).alloc o2).alloc (.cells #[v] t)).drewN k) w1) :
 Below w.heap.size w w1∧w1.heap[w.heap.size + 2]? = some (.cells #[v] t (0,0))∧w.heap.size + 3≤w1.heap.size:=by
 obtain ⟨p1,p2,p3⟩:=pre3 w o1 o2 v t k
 exact ⟨p1.trans (h.mono p1.size),(h.block _ (by omega)).trans p3,by have:=h.size;omega⟩
theorem one_cell {w:World} {g:Nat} {v:Value} {t:TypeId} (h:w.heap[g]? = some (.cells #[v] t (0,0))):w.cell? ⟨g,0,none⟩=some v∧w.frozen? ⟨g,0,none⟩=false:=by
 refine ⟨?_,?_⟩
 ·rw [cell_of_row w g 0 _ t (0,0) h];rfl
 ·simp [World.frozen?,h]
def AddMulPost (w:World) (g o k f:Nat) (l ys:List Nat) (e:Ending) (w':World):Prop :=
 ∃ (seg:List Nat) (c:Nat),e = .returned (.int .u32 (c:Int))∧Hid (seg.length=k)∧Hid (Good32 seg)∧Hid (c < W32)∧Hid (val W32 seg + W32 ^ k * c=val W32 ((l.drop o).take k) + f * val W32 ys) ∧
  Blk U32 142 w' g (l.take o ++ (seg ++ l.drop (o + k)))∧w.grownBy w' (some g)
theorem addMultiple_any {A:Option Addr} {g o k c c' f B:Nat} {l ys:List Nat} {w:World} (hb:Blk U32 142 w g l) (hr:Rd U32 w B A ys) (hB:B≤g) (hk:k=ys.length) (ho:o + k≤l.length)
 (hl:Good32 l) (hy:Good32 ys) (hf:f < W32) (hlim:l.length≤1000000) :
 Calls Tryz.prog 187 #[.slice (some ⟨g,o,none⟩) k c,.slice A k c',.int .u32 (f:Int)] w (AddMulPost w g o k f l ys):=by
 have HB:=hide hb;have HR:=hide hr;have HK:=hide hk;have HL:=hide hl;have HY:=hide hy;have HF:=hide hf;have HO:=hide ho
 have hkl:k≤1000000:=by omega
 clear hb hr hk hl hy hf hlim ho
 go_enter Tryz.func187,Tryz.ntmps187
 go_wp2
 go_loopw [7,12] (fun cv iv wr=>∃ i cr:Nat,∃ seg:List Nat,i≤k∧Hid (cr < W32)∧iv = .int .i64 (i:Int)∧cv = .int .u64 (cr:Int)∧Hid (seg.length=i)∧Hid (Good32 seg) ∧
  Hid (val W32 seg + W32 ^ i * cr=val W32 ((l.drop o).take i) + f * val W32 (ys.take i))∧Hid (Blk U32 142 wr g (l.take o ++ (seg ++ l.drop (o + i))))∧Hid (w.grownBy wr (some g)))
  (fun _ iv _=>k - (intOf iv).toNat)
 case atStart=>exact ⟨0,0,[],Nat.zero_le _,by unfold Hid;decide,rfl,rfl,rfl,by intro x hx;simp at hx,by simp [Hid,val],by simpa [Hid] using HB.out,World.grownBy.refl _ _⟩
 case round =>
  obtain ⟨i,cr,seg,hi,hcr,rfl,rfl,hsl,hsg,hval,hblk,hgr⟩:=hrel
  by_cases hlt:i < k
  ·have hiy:i < ys.length:=by rw [← HK.out];exact hlt
   have hil:o + i < l.length:=by have:=HO.out;omega
   obtain ⟨y,hye⟩:∃ y,y=ys[i]:=⟨_,rfl⟩
   obtain ⟨s,hse⟩:∃ s,s=l[o + i]:=⟨_,rfl⟩
   obtain ⟨ad,rfl,hab,hcy⟩:=(HR.out.grown hgr.out hB).at_ hiy
   have hsL:l[o + i]? = some s:=by rw [hse];exact List.getElem?_eq_getElem hil
   have hcs:wr.cell? ⟨g,o + i,none⟩=some (U32 s):=hblk.out.cell (by rw [get_mid (by rw [List.length_take];omega) hsl.out,hsL])
   have hfz:=hblk.out.frozen (o + i)
   rw [← hye] at hcy
   have hyW:y < W32:=by rw [hye];exact HY.out _ (List.getElem_mem _)
   have hsW:s < W32:=by rw [hse];exact HL.out _ (List.getElem_mem _)
   have R:=hide (addmul_wrap hyW HF.out hsW hcr.out)
   have Rq:=hide (addmul_hi hyW HF.out hsW hcr.out)
   have Rv:=hide (addmul_math (W:=W32) hval.out rfl (lohi (cr + (y * f + s))))
   have Rm:=hide (set_mid (seg:=seg) (v:=(cr + (y * f + s)) % W32) (show (l.take o).length=o by rw [List.length_take];omega) hsl.out hil)
   have RL:=hide (val_take_succ W32 (L:=l.drop o) (i:=i) (x:=s) (by rw [List.getElem?_drop];exact hsL))
   have RY:=hide (val_take_succ W32 (L:=ys) (i:=i) (x:=y) (by rw [hye];exact List.getElem?_eq_getElem hiy))
   unfold U32 at hcs hcy
   clear hye hse hiy hil hyW hsW hsL
   go_wp2
   go_roundw
   case rel =>
    refine ⟨i + 1,(cr + (y * f + s)) / W32,seg ++ [(cr + (y * f + s)) % W32],by omega,Rq,by go_num,by rw [R.out];rfl,by unfold Hid;simp [hsl.out],good_snoc hsg.out (lo_lt _),?_,?_,?_⟩
    ·unfold Hid
     rw [val_snoc,hsl.out,Nat.pow_succ,RL.out,RY.out]
     exact Rv.out
    ·have hb:=hblk.out.set_ (o + i) ((cr + (y * f + s)) % W32)
     rw [Rm.out] at hb
     rw [R.out]
     exact hb
    ·exact grown_set hgr.out _ _
   case measure=>simp [intOf];omega
  ·obtain rfl:i=k:=by omega
   have hcw:cr≤4294967295:=by have:=hcr.out;rw [W32_eq] at this;omega
   go_wp2
   go_ret
   refine ⟨seg,cr,rfl,hsl.out,hsg.out,hcr.out,?_,hblk.out,hgr.out⟩
   have:=hval.out
   rwa [List.take_of_length_le (show ys.length≤i by rw [HK.out];exact Nat.le_refl _)] at this
theorem set_at {seg L:List Nat} {i v:Nat} (h:seg.length=i) (hi:i < L.length):(seg ++ L.drop i).set i v=(seg ++ [v]) ++ L.drop (i + 1):=by
 rw [List.set_append,if_neg (by omega),h,Nat.sub_self,List.drop_eq_getElem_cons hi,List.set_cons_zero];simp
theorem get_at {seg L:List Nat} {i:Nat} (h:seg.length=i):(seg ++ L.drop i)[i]? = L[i]?:=by
 rw [List.getElem?_append_right (by omega),h,Nat.sub_self,List.getElem?_drop];rfl
theorem digs_of_big {b:Nat} (hb:2≤b) (l:List Nat) (h:∀ x ∈ l,x < b) (hv:0 < l.length→b ^ (l.length - 1)≤val b l):digs b (val b l)=l:=by
 have h1:=digs_take hb l h
 have h2:=digs_len_le hb l h
 have h3:l.length≤(digs b (val b l)).length:=by
  rcases Nat.eq_zero_or_pos l.length with h0 | h0
  ·omega
  ·have h4:=hv h0
   have h5:=lt_pow_digs hb (val b l)
   rcases Nat.lt_or_ge (digs b (val b l)).length l.length with h6 | h6
   ·have:b ^ (digs b (val b l)).length≤b ^ (l.length - 1):=Nat.pow_le_pow_right (by omega) (by omega)
    omega
   ·exact h6
 rw [← h1,List.take_of_length_le h3]
def OwnF (f:Nat→Value) (t:TypeId) (w:World) (base g cap:Nat) (ws:List Nat):Prop:=w.ownsRow base t 1 (.slice (some ⟨g,0,none⟩) ws.length cap) ws.length (ws.map f)
section
variable {f:Nat→Value} {t:TypeId} {w:World} {base g cap:Nat} {ws:List Nat}
theorem OwnF.cell (h:OwnF f t w base g cap ws) {i x:Nat} (hx:ws[i]? = some x):w.cell? ⟨g,i,none⟩=some (f x):=by
 have hi:i < ws.length:=by
  rcases Nat.lt_or_ge i ws.length with h1 | h1
  ·exact h1
  ·rw [List.getElem?_eq_none h1] at hx;cases hx
 rw [World.ownsRow.cellAt h i (by omega),List.getElem?_map,hx];rfl
theorem OwnF.set_ (h:OwnF f t w base g cap ws) (i v:Nat):OwnF f t (w.setCell ⟨g,i,none⟩ (f v)) base g cap (ws.set i v):=by
 have:=(World.ownsRow.stored h i (f v)).1
 unfold OwnF
 rw [List.length_set,List.map_set]
 exact this
theorem OwnF.ge (h:OwnF f t w base g cap ws):base≤g∧g < w.heap.size:=h.lt g rfl
theorem OwnF.frozen (h:OwnF f t w base g cap ws) (i:Nat):w.frozen? ⟨g,i,none⟩=false:=World.ownsRow.frozenAt h i
end
def OwnG (w:World) (base g cap:Nat) (ws:List Nat):Prop:=OwnF U32 142 w base g cap ws
theorem OwnG.cell {w:World} {base g cap:Nat} {ws:List Nat} (h:OwnG w base g cap ws) {i x:Nat} (hx:ws[i]? = some x):w.cell? ⟨g,i,none⟩=some (.int .u32 (x:Int)):=OwnF.cell h hx
theorem OwnG.set_ {w:World} {base g cap:Nat} {ws:List Nat} (h:OwnG w base g cap ws) (i v:Nat):OwnG (w.setCell ⟨g,i,none⟩ (.int .u32 (v:Int))) base g cap (ws.set i v):=OwnF.set_ h i v
theorem OwnG.ge {w:World} {base g cap:Nat} {ws:List Nat} (h:OwnG w base g cap ws):base≤g∧g < w.heap.size:=OwnF.ge h
def AGPost (w:World) (base M:Nat) (e:Ending) (w':World):Prop :=
 ∃ g' cap',e = .returned (.slice (some ⟨g',0,none⟩) (dl M) cap')∧Hid (OwnG w' base g' cap' (digs W32 M))∧Hid (Below base w w')
theorem OwnG.can {w:World} {base g cap m:Nat} (h:OwnG w base g cap (digs W32 m)) {p:Addr} (hp:g ≠ p.block) (u:Value):Can (w.setCell p u) (w.setCell p u).heap.size (some ⟨g,0,none⟩) cap m:=by
 refine ⟨?_,fun _=>⟨_,rfl,by have:=h.ge.2;simpa [World.setCell] using this,fun j x hx=>?_⟩⟩
 ·rcases h.2 with ⟨h',_⟩ | ⟨g',cap',cur,h',_,_,hn,_⟩
  ·cases h'
  ·simp only [Value.slice.injEq,Option.some.injEq,Addr.mk.injEq,and_true,true_and] at h'
   obtain ⟨_,rfl⟩:=h'
   exact hn
 ·rw [World.cell?_setCell_other w p _ u (by intro e;rw [e,block_add] at hp;exact hp rfl)]
  exact World.ownsRow.cells h rfl j _ (by rw [List.getElem?_map,hx];rfl)
theorem ag_math {P V c vt group q r x W:Nat} (h:V + P * c=vt * 1000000000 + group) (hq:r + W * q=c + x * 1000000000):V + P * r + P * W * q=(vt + P * x) * 1000000000 + group:=by
 have e1:P * r + P * W * q=P * c + P * (x * 1000000000):=by rw [Nat.mul_assoc,← Nat.mul_add,hq,Nat.mul_add]
 rw [Nat.add_mul,Nat.mul_assoc P x];omega
theorem appendGroup_any {g cap base m group:Nat} {w:World} (h:OwnG w base g cap (digs W32 m)) (hg:group≤999999999) (hl:dl m≤1000000) :
 Calls Tryz.prog 195 #[.slice (some ⟨g,0,none⟩) (dl m) cap,.int .u32 (group:Int)] w (AGPost w base (m * 1000000000 + group)):=by
 have H:=hide h
 have HBG:=hide h.ge
 clear h
 obtain ⟨i0,hi0,hz0,hz1,hz2⟩:=info_parts Tryz.infoU32
 have I0:=hide hi0
 have Z0:=hide hz0
 have Z1:=hide hz1
 have Z2:=hide hz2
 clear hi0 hz0 hz1 hz2
 go_enter Tryz.func195,Tryz.ntmps195
 go_wp2
 go_loopw [5,12] (fun cv iv wr=>∃ i c:Nat,∃ seg:List Nat,i≤dl m∧c≤999999999∧cv = .int .u64 (c:Int)∧iv = .int .i64 (i:Int)∧Hid (seg.length=i)∧Hid (Good32 seg)∧Hid (val W32 seg + W32 ^ i * c=val W32 ((digs W32 m).take i) * 1000000000 + group) ∧
  Hid (OwnG wr base g cap (seg ++ (digs W32 m).drop i))∧Hid (w.grownBy wr (some g)))
  (fun _ iv _=>dl m - (intOf iv).toNat)
 case atStart=>exact ⟨0,group,[],Nat.zero_le _,hg,rfl,rfl,rfl,by intro x hx;simp at hx,by simp [Hid,val],H,World.grownBy.refl _ _⟩
 case round =>
  obtain ⟨i,c,seg,hi,hc,rfl,rfl,hsl,hsg,hval,hown,hgr⟩:=hrel
  by_cases hlt:i < dl m
  ·have hix:i < (digs W32 m).length:=hlt
   obtain ⟨x,hxe⟩:∃ x,x=(digs W32 m)[i]:=⟨_,rfl⟩
   have hxL:(digs W32 m)[i]? = some x:=by rw [hxe];exact List.getElem?_eq_getElem hix
   have RX:=hide (val_take_succ W32 (L:=digs W32 m) (i:=i) (x:=x) hxL)
   have hxW:x≤4294967295:=word_le (by rw [hxe];exact good_digs m _ (List.getElem_mem _))
   have hcx:=hown.out.cell (show (seg ++ (digs W32 m).drop i)[i]? = some x by rw [get_at hsl.out];exact hxL)
   have hfz:=World.ownsRow.frozenAt hown.out i
   have RM:=hide (ag_math (W:=W32) hval.out (lohi (c + x * 1000000000)))
   have HS:=hide (set_at (v:=(c + x * 1000000000) % W32) hsl.out hix)
   clear hxe hix hxL
   go_wp2
   go_roundw
   case rel =>
    refine ⟨i + 1,(c + x * 1000000000) / W32,seg ++ [(c + x * 1000000000) % W32],by omega,by rw [W32_eq];omega,rfl,by go_num,by unfold Hid;simp [hsl.out],good_snoc hsg.out (lo_lt _),?_,?_,grown_set hgr.out _ _⟩
    ·unfold Hid
     rw [val_snoc,hsl.out,Nat.pow_succ,RX.out]
     exact RM.out
    ·have h1:=hown.out.set_ i ((c + x * 1000000000) % W32)
     rw [HS.out] at h1
     exact h1
   case measure=>simp [intOf];omega
  ·obtain rfl:i=dl m:=by omega
   have hd:(digs W32 m).drop (dl m)=[]:=List.drop_of_length_le (Nat.le_refl _)
   rw [hd,List.append_nil] at hown
   have HV:Hid (val W32 seg + W32 ^ dl m * c=m * 1000000000 + group):=by
    have:=hval.out
    rw [List.take_of_length_le (show (digs W32 m).length≤dl m from Nat.le_refl _),val_digs32] at this
    exact this
   clear hd hval
   by_cases hc0:c=0
   ·subst hc0
    have HM:Hid (digs W32 (m * 1000000000 + group)=seg):=by
     unfold Hid
     have h1:=HV.out
     rw [Nat.mul_zero,Nat.add_zero] at h1
     rw [← h1]
     refine digs_of_big (by decide) seg hsg.out fun h0=>?_
     rw [hsl.out] at h0 ⊢
     have h2:=pow_le_of_digs (b:=W32) (n:=m) (by decide) (by
      rcases Nat.eq_zero_or_pos m with rfl | h3
      ·exact absurd h0 (by unfold dl;rw [digs_zero];simp)
      ·exact h3)
     exact Nat.le_trans h2 (by rw [h1];omega)
    have HDL:Hid (dl (m * 1000000000 + group)=dl m):=by unfold Hid;rw [show dl (m * 1000000000 + group)=seg.length by unfold dl;rw [HM.out],hsl.out]
    go_wp2
    go_ret
    refine ⟨g,cap,slice_ret HDL.out.symm,?_,grown_below hgr.out HBG.out.1 HBG.out.2⟩
    rw [HM.out]
    exact hown
   ·have hcp:(0:Int) < (c:Int):=by omega
    have HM:Hid (digs W32 (m * 1000000000 + group)=seg ++ [c]):=by
     unfold Hid
     have h1:val W32 (seg ++ [c])=m * 1000000000 + group:=by rw [val_snoc,hsl.out];exact HV.out
     rw [← h1]
     refine digs_of_big (by decide) _ (good_snoc hsg.out (by rw [W32_eq];omega)) fun _=>?_
     rw [val_snoc,List.length_append,List.length_singleton,Nat.add_sub_cancel]
     exact Nat.le_trans (Nat.le_mul_of_pos_right _ (by omega)) (Nat.le_add_left _ _)
    have HDL:Hid (dl (m * 1000000000 + group)=dl m + 1):=by unfold Hid;rw [show dl (m * 1000000000 + group)=(seg ++ [c]).length by unfold dl;rw [HM.out]];simp [hsl.out]
    have HO:Hid (wr.ownsRow base 142 1 (.slice (some ⟨g,0,none⟩) (dl m) cap) (dl m) (seg.map U32)):=by
     have:=hown.out
     unfold OwnG OwnF at this
     rw [hsl.out] at this
     exact this
    have HBW:=hide (Nat.le_trans HBG.out.1 (Nat.le_of_lt (Nat.lt_of_lt_of_le HBG.out.2 hgr.out.size)))
    clear hc0
    go_wp2_with (first | (at_builtin;go_must (refine wpList_append_own _ rfl (.tmp 32) (.tmp 35) 40 rfl base 142 i0 (.int .u32 0) 1 4 Tryz.underlying40 I0.out Z0.out Z1.out Z2.out rfl (by decide) _ _ _ rfl (HO.out.alloc _) ⟨wr.heap.size,0,none⟩ 1 1 [.int .u32 (c:Int)] rfl rfl (cell_one_new _ _ _) (by intro u hu;simp at hu;subst hu;rfl) (by simp only [maxLen];omega) (by omega) (by have:=HBW.out;simp;omega) ?_;intro v' w1 hown' hgrow hnil)))
    go_ret
    have hown2:=hown'
    rcases hown'.2 with ⟨_,h0⟩ | ⟨g',cap',cur,rfl,_⟩
    ·omega
    ·refine ⟨g',cap',slice_ret HDL.out.symm,?_,?_⟩
     ·unfold Hid OwnG OwnF
      rw [HM.out,List.length_append,hsl.out,List.map_append]
      exact hown2
     ·exact ((grown_below hgr.out HBG.out.1 HBG.out.2).alloc HBW.out _).grown hgrow (by have:=HBW.out;simp;omega) (by intro k hk;have e:some g=some k:=hk;injection e with e;have:=HBG.out.1;omega)
def D4:Nat:=10000
def dq (m:Nat):Nat:=(digs D4 m).length
section
variable {w w':World} {B B':Nat} {A:Option Addr} {c m:Nat}
end


section
variable {P:Program} {w:World}
end



end Go.Proofs.YtfflmmbhpchloaaGreatDoor
end
