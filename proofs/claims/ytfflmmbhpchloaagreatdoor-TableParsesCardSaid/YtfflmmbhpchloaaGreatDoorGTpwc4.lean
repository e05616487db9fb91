/- Each theorem here says its own conditions. -/
import Derived.Test.YtfflmmbhpchloaaGreatDoorGTpwc3
import Derived.Laws.StructEq
import Derived.Lib.MinMaxS
set_option maxRecDepth 100000
set_option maxHeartbeats 16000000
section
open Go.RowKit
namespace Go.Proofs.YtfflmmbhpchloaaGreatDoor
def showB (p n:ByteArray) (k:Int):ByteArray:=if k < 1 ∨ 15 < k then eB else if k=1 then p ++ n else joinS [pwB k.toNat,p ++ n]
theorem lit_ssk (W:World) (xs:List ByteArray) (t:TypeId):Ss (W.alloc (.cells (xs.map Value.string).toArray t)) (some ⟨W.heap.size,0,none⟩) xs:=fun _ =>
 ⟨⟨W.heap.size,0,none⟩,rfl,(at_new0 W (xs.map Value.string) t).lt,fun j x hj=>by
   rw [show (⟨W.heap.size,0,none⟩:Addr).add j=⟨W.heap.size,j,none⟩ by unfold Addr.add;split <;> simp_all]
   exact (at_new0 W (xs.map Value.string) t).ci (by rw [List.getElem?_map,hj];rfl)⟩
theorem glue_two (a b:ByteArray):(glue 45 ([a,b].map (·.data.toList))).length=a.size + b.size + 1:=by
 simp only [List.map_cons,List.map_nil,glue,List.length_append,List.length_cons,Lib.size_eq];omega
theorem show_any {p n:ByteArray} {k:Int} (hs:p.size + n.size≤140737488355000) (w:World):Calls Tryz.prog 99 #[.agg #[.string p,.string n,.int .i64 k]] w (StrR w (showB p n k)):=by
 have hs1:¬ 9223372036854775807 < p.size + n.size:=by omega
 have hs2:p.size + n.size≤9223372036854775807:=by omega
 obtain ⟨u,hu⟩:∃ u,u=p ++ n:=⟨_,rfl⟩
 have huz:u.size=p.size + n.size:=by rw [hu,ByteArray.size_append]
 obtain ⟨W1,hW1⟩:∃ X,X=w.alloc (.cells #[.string p,.string n,.int .i64 k] 96):=⟨_,rfl⟩
 have HA:At W1 w.heap.size [.string p,.string n,.int .i64 k]:=by rw [hW1];exact at_new0 _ _ _
 have HB:Bel w W1:=by rw [hW1];exact (Bel.refl w).al _
 have HW:=khide hW1
 have ha_0:=HA.c0;have ha_1:=HA.c1;have ha_2:=HA.c2;have ha_l:=HA.lt
 by_cases h1:k < 1
 ·have d1:decide (k < 1)=true:=decide_eq_true h1
  have HV:Hid (showB p n k=eB):=if_pos (.inl h1)
  clear h1 hW1 hu huz
  go_enter Tryz.func99,Tryz.ntmps99
  go_upto_region 1 with fail
  rw [← HW.out]
  go_wp2
  go_ret
  exact ⟨by rw [HV.out];rfl,HB⟩
 by_cases h2:15 < k
 ·have d1:decide (k < 1)=false:=decide_eq_false h1
  have d2:decide (15 < k)=true:=decide_eq_true h2
  have HV:Hid (showB p n k=eB):=if_pos (.inr h2)
  clear h1 h2 hW1 hu huz
  go_enter Tryz.func99,Tryz.ntmps99
  go_upto_region 1 with fail
  rw [← HW.out]
  go_wp2
  go_ret
  exact ⟨by rw [HV.out];rfl,HB⟩
 have d1:decide (k < 1)=false:=decide_eq_false h1
 have d2:decide (15 < k)=false:=decide_eq_false h2
 by_cases h3:k=1
 ·have d3:(k == 1)=true:=by rw [h3];rfl
  have HV:Hid (showB p n k=p ++ n):=by unfold Hid showB;rw [if_neg (by omega),if_pos h3]
  clear h1 h2 h3 hW1 hu huz
  go_enter Tryz.func99,Tryz.ntmps99
  go_upto_region 1 with fail
  rw [← HW.out]
  go_wp2
  go_ret
  exact ⟨by rw [HV.out];rfl,HB⟩
 ·obtain ⟨j,rfl⟩:∃ j:Nat,k=(j:Int):=⟨k.toNat,by omega⟩
  have d3:((j:Int) == 1)=false:=beq_eq_false_iff_ne.2 h3
  have hj2:2≤j:=by omega
  have hj16:j < 16:=by omega
  obtain ⟨t,ht⟩:∃ t,pwB j=t:=⟨_,rfl⟩
  have CW:Hid (∀ W:World,Calls Tryz.prog 143 #[.int .i64 (j:Int)] W fun e w'=>e = .returned (.string t)∧W=w'):=fun W=>ht ▸ powerWord_any hj2 hj16 W
  have htz:t.size≤6:=by rw [← ht];exact pwB_size j hj16 hj2
  have HV:Hid (showB p n (j:Int)=joinS [t,u]):=by
   unfold Hid showB
   rw [if_neg (by omega),if_neg h3,Int.toNat_natCast,ht,hu]
  have CJ:Hid (∀ W:World,Calls Tryz.prog 31 #[.slice (some ⟨W.heap.size,0,none⟩) 2 2] (W.alloc (.cells #[.string t,.string u] 9)) (StrR (W.alloc (.cells #[.string t,.string u] 9)) (joinS [t,u]))):=fun W =>
   wjoin_any (lit_ssk W [t,u] 9) rfl (by omega) (by omega) (by rw [glue_two];omega)
  have huv:=khide hu
  clear h1 h2 h3 hW1 ht huz hj2 hj16 htz
  go_enter Tryz.func99,Tryz.ntmps99
  go_upto_region 1 with fail
  rw [← HW.out]
  go_upto_region 4 with fail
  rw [← hu]
  clear hu
  go_wp2_with (first | (go_at_call 143;(with_reducible refine (CW.out _).mono ?_);rintro e w1 ⟨rfl,rfl⟩) | (go_at_call 31;(with_reducible refine (CJ.out _).mono ?_);rintro e w2 ⟨rfl,hb⟩) | fail)
  go_ret
  exact ⟨by rw [HV.out];rfl,(HB.al _).up hb⟩
def eqA (p n:ByteArray) (k:Int) (p' n':ByteArray) (k':Int):Bool:=decide (p=p'∧n=n'∧k=k')
theorem beq_dec (a b:ByteArray):(a.toList == b.toList)=decide (a=b):=by
 by_cases h:a=b
 ·subst h;simp
 ·rw [str_ne h,decide_eq_false h]
theorem eqA_beq (p n:ByteArray) (k:Int) (p' n':ByteArray) (k':Int):eqA p n k p' n' k'=((p.toList == p'.toList) && ((n.toList == n'.toList) && (k == k'))):=by
 unfold eqA
 rw [beq_dec,beq_dec,Bool.eq_iff_iff];simp
theorem req_in (w:World) (p n:ByteArray) (k:Int) (p' n':ByteArray) (k':Int):(Op.equalIn 10000 166 (.agg #[.string p,.string n,.int .i64 k]) (.agg #[.string p',.string n',.int .i64 k'])).run Tryz.prog w = .ok (eqA p n k p' n' k') w:=by
 rw [eqA_beq,run_equalIn_agg w 9999 _ _ _ (by kernel_rfl) (by kernel_rfl)]
 have hf : (Tryz.prog.fieldsOf 166).toList.map (fun f => (f.name, f.type, f.offset)) = [("Prefix", 9, 0), ("Name", 9, 1), ("Power", 3, 2)] := by kernel_rfl
 obtain ⟨fs,hfs⟩:∃ fs,(Tryz.prog.fieldsOf 166).toList=fs:=⟨_,rfl⟩
 rw [hfs] at hf ⊢
 match fs,hf with
 | [f0,f1,f2],hf =>
   simp at hf
   obtain ⟨⟨a0,b0,c0⟩,⟨a1,b1,c1⟩,a2,b2,c2⟩:=hf
   simp [Op.eqFields,a0,a1,a2,b0,b1,b2,c0,c1,c2,part,isAgg,run_underlying Tryz.underlying9,run_underlying Tryz.underlying3,run_equalIn_string _ _ _ _ _ Tryz.underlying9,run_equalIn_int _ _ _ _ _ _ _ Tryz.underlying3,Result.andThen]
   by_cases h1:p.toList=p'.toList <;> by_cases h2:n.toList=n'.toList <;> by_cases h3:k=k' <;> simp [h1,h2,h3]
theorem rneq (w:World) (p n:ByteArray) (k:Int) (p' n':ByteArray) (k':Int):(binOp .neq 166 (.agg #[.string p,.string n,.int .i64 k]) (.agg #[.string p',.string n',.int .i64 k'])).run Tryz.prog w = .ok (.bool (!(eqA p n k p' n' k'))) w:=by
 rw [run_neq_struct,req_in];rfl

theorem ltS_iff (a b:ByteArray):ltS a b=true ↔ a.data.toList < b.data.toList:=by
 unfold ltS;rw [bytesLess_eq,Lib.toList_data,Lib.toList_data];simp
theorem ltS_irr (a:ByteArray):ltS a a=false:=by
 rw [Bool.eq_false_iff];intro h;exact List.lt_irrefl _ ((ltS_iff a a).1 h)
theorem ltS_tr {a b c:ByteArray} (h:ltS a b=true) (h':ltS b c=true):ltS a c=true:=(ltS_iff a c).2 (List.lt_trans ((ltS_iff a b).1 h) ((ltS_iff b c).1 h'))
theorem ltS_tri {a b:ByteArray} (h:ltS a b=false) (h':ltS b a=false):a=b:=by
 rw [Bool.eq_false_iff] at h h'
 have h1:¬ a.data.toList < b.data.toList:=fun e=>h ((ltS_iff a b).2 e)
 have h2:¬ b.data.toList < a.data.toList:=fun e=>h' ((ltS_iff b a).2 e)
 exact ByteArray.ext (Array.ext' (List.le_antisymm h2 h1))
theorem ltS_as {a b:ByteArray} (h:ltS a b=true):ltS b a=false:=by
 rw [Bool.eq_false_iff];intro h'
 have:=ltS_tr h h'
 rw [ltS_irr] at this;cases this
theorem cmpS_cases (a b:ByteArray):(ltS a b=true∧cmpS a b = -1) ∨ (a=b∧cmpS a b=0) ∨ (ltS b a=true∧cmpS a b=1):=by
 unfold cmpS
 cases h:ltS a b with
 | true=>exact .inl ⟨rfl,rfl⟩
 | false =>
   by_cases e:a=b
   ·subst e;exact .inr (.inl ⟨rfl,by simp⟩)
   ·refine .inr (.inr ⟨?_,?_⟩)
    ·cases h':ltS b a with
     | true=>rfl
     | false=>exact absurd (ltS_tri h h') e
    ·rw [str_ne e];rfl
theorem cmpI_cases (a b:Int):(a < b∧Lib.compareInt a b = -1) ∨ (a=b∧Lib.compareInt a b=0) ∨ (b < a∧Lib.compareInt a b=1):=by
 unfold Lib.compareInt
 rcases Int.lt_trichotomy a b with h | h | h
 ·exact .inl ⟨h,by rw [if_pos h]⟩
 ·subst h;exact .inr (.inl ⟨rfl,by simp⟩)
 ·exact .inr (.inr ⟨h,by rw [if_neg (by omega)];simp;omega⟩)
def LtA (p n:ByteArray) (k:Int) (p' n':ByteArray) (k':Int):Prop:=ltS n n'=true ∨ (n=n'∧(ltS p p'=true ∨ (p=p'∧k < k')))
theorem lessB_iff (p n:ByteArray) (k:Int) (p' n':ByteArray) (k':Int):lessB p n k p' n' k'=true ↔ LtA p n k p' n' k':=by
 unfold lessB LtA or3
 rw [decide_eq_true_eq]
 rcases cmpS_cases n n' with ⟨a,e⟩ | ⟨a,e⟩ | ⟨a,e⟩
 ·rw [e];simp [a]
 ·subst a
  rw [e]
  simp only [ltS_irr]
  rcases cmpS_cases p p' with ⟨a,e⟩ | ⟨a,e⟩ | ⟨a,e⟩
  ·rw [e];simp [a]
  ·subst a
   rw [e]
   simp only [ltS_irr]
   rcases cmpI_cases k k' with ⟨a,e⟩ | ⟨a,e⟩ | ⟨a,e⟩
   ·rw [e];simp [a]
   ·rw [e];simp [a]
   ·rw [e];simp;omega
  ·rw [e]
   have h1:=ltS_as a
   have h2:p ≠ p':=by rintro rfl;rw [ltS_irr] at a;cases a
   simp [h1,h2]
 ·rw [e]
  have h1:=ltS_as a
  have h2:n ≠ n':=by rintro rfl;rw [ltS_irr] at a;cases a
  simp [h1,h2]
section
variable {p1 n1 p2 n2 p3 n3:ByteArray} {k1 k2 k3:Int}
theorem lessB_irr:lessB p1 n1 k1 p1 n1 k1=false:=by
 rw [Bool.eq_false_iff];intro h
 rcases (lessB_iff _ _ _ _ _ _).1 h with h | ⟨_,h | ⟨_,h⟩⟩
 ·rw [ltS_irr] at h;cases h
 ·rw [ltS_irr] at h;cases h
 ·omega
theorem lessB_tr (h:lessB p1 n1 k1 p2 n2 k2=true) (h':lessB p2 n2 k2 p3 n3 k3=true):lessB p1 n1 k1 p3 n3 k3=true:=by
 rw [lessB_iff] at h h' ⊢
 rcases h with h | ⟨rfl,h⟩
 ·rcases h' with h' | ⟨rfl,h'⟩
  ·exact .inl (ltS_tr h h')
  ·exact .inl h
 ·rcases h' with h' | ⟨rfl,h'⟩
  ·exact .inl h'
  ·refine .inr ⟨rfl,?_⟩
   rcases h with h | ⟨rfl,h⟩
   ·rcases h' with h' | ⟨rfl,h'⟩
    ·exact .inl (ltS_tr h h')
    ·exact .inl h
   ·rcases h' with h' | ⟨rfl,h'⟩
    ·exact .inl h'
    ·exact .inr ⟨rfl,by omega⟩
theorem lessB_tri (h:eqA p1 n1 k1 p2 n2 k2=false):(lessB p1 n1 k1 p2 n2 k2 == lessB p2 n2 k2 p1 n1 k1)=false:=by
 have hne:¬ (p1=p2∧n1=n2∧k1=k2):=of_decide_eq_false h
 cases h1:lessB p1 n1 k1 p2 n2 k2 <;> cases h2:lessB p2 n2 k2 p1 n1 k1
 ·exfalso
  rw [Bool.eq_false_iff] at h1 h2
  rw [ne_eq,lessB_iff] at h1 h2
  unfold LtA at h1 h2
  simp only [not_or,not_and] at h1 h2
  have e1:n1=n2:=ltS_tri (by simpa using h1.1) (by simpa using h2.1)
  have e2:p1=p2:=ltS_tri (by simpa using (h1.2 e1).1) (by simpa using (h2.2 e1.symm).1)
  have a:=(h1.2 e1).2 e2
  have b:=(h2.2 e1.symm).2 e2.symm
  exact hne ⟨e2,e1,by omega⟩
 ·rfl
 ·rfl
 ·exfalso
  have:=lessB_tr h1 h2
  rw [lessB_irr] at this;cases this
end
theorem cut_join (u:ByteArray) (k:Nat) (h:k≤u.size):u.extract 0 k ++ restB u k=u:=by
 apply ByteArray.ext
 apply Array.ext'
 unfold restB
 rw [ByteArray.data_append,Array.toList_append,ByteArray.data_extract,ByteArray.data_extract,Array.toList_extract,Array.toList_extract]
 simp only [List.extract,List.drop_zero,Nat.sub_zero]
 rw [List.take_of_length_le (l:=List.drop k u.data.toList) (by rw [List.length_drop,Lib.size_eq];omega),List.take_append_drop]
theorem join_two (a b:ByteArray):joinS [a,b]=a ++ ⟨#[45]⟩ ++ b:=by
 apply ByteArray.ext
 apply Array.ext'
 show glue 45 [a.data.toList,b.data.toList]=_
 rw [ByteArray.data_append,Array.toList_append,ByteArray.data_append,Array.toList_append]
 simp [glue]
theorem leadP_form (l:List ByteArray):leadP l=(1,0) ∨ ∃ s r,l=s :: r∧leadP l=(powOf s,1)∧2≤powOf s∧powOf s < 16∧s=pwB (powOf s):=by
 cases l with
 | nil=>exact .inl rfl
 | cons s r =>
   by_cases h:powOf s=0
   ·exact .inl (if_pos h)
   ·rcases powOf_is s with h1 | ⟨h1,h2,h3⟩
    ·exact absurd h1 h
    ·exact .inr ⟨s,r,rfl,if_neg h,h1,h2,h3⟩
end Go.Proofs.YtfflmmbhpchloaaGreatDoor
end
section
namespace Go.Proofs.YtfflmmbhpchloaaGreatDoor
def val (b:Nat):List Nat→Nat
 | []=>0
 | x :: xs=>x + b * val b xs
def digs (b n:Nat):List Nat:=if _h:n=0 ∨ b < 2 then [] else n % b :: digs b (n / b)
termination_by n
decreasing_by exact Nat.div_lt_self (by omega) (by omega)
theorem digs_zero (b:Nat):digs b 0=[]:=by rw [digs];simp
theorem digs_pos {b n:Nat} (hb:2≤b) (hn:0 < n):digs b n=n % b :: digs b (n / b):=by rw [digs,dif_neg (by omega)]
theorem val_digs {b:Nat} (hb:2≤b) (n:Nat):val b (digs b n)=n:=by
 induction n using Nat.strongRecOn with
 | _ n ih =>
   by_cases hn:n=0
   ·subst hn;rw [digs_zero];rfl
   ·rw [digs_pos hb (by omega),val,ih _ (Nat.div_lt_self (by omega) (by omega))];exact Nat.mod_add_div n b
theorem digs_lt {b:Nat} (hb:2≤b) (n:Nat):∀ x ∈ digs b n,x < b:=by
 induction n using Nat.strongRecOn with
 | _ n ih =>
   by_cases hn:n=0
   ·subst hn;rw [digs_zero];simp
   ·rw [digs_pos hb (by omega)]
    intro x hx
    rcases List.mem_cons.1 hx with rfl | hx
    ·exact Nat.mod_lt _ (by omega)
    ·exact ih _ (Nat.div_lt_self (by omega) (by omega)) x hx
theorem val_append (b:Nat) (xs ys:List Nat):val b (xs ++ ys)=val b xs + b ^ xs.length * val b ys:=by
 induction xs with
 | nil=>simp [val]
 | cons x xs ih=>simp only [List.cons_append,val,ih,List.length_cons,Nat.pow_succ,Nat.mul_add];rw [Nat.mul_comm (b ^ xs.length) b,Nat.mul_assoc,Nat.add_assoc]
theorem val_snoc (b:Nat) (xs:List Nat) (y:Nat):val b (xs ++ [y])=val b xs + b ^ xs.length * y:=by rw [val_append];simp [val]
theorem val_lt {b:Nat} (xs:List Nat) (h:∀ x ∈ xs,x < b):val b xs < b ^ xs.length:=by
 induction xs with
 | nil=>simp [val]
 | cons x xs ih =>
   have h1:=h x (by simp)
   have h2:=ih fun y hy=>h y (by simp [hy])
   simp only [val,List.length_cons,Nat.pow_succ]
   have h3:b * (val b xs + 1)≤b * b ^ xs.length:=Nat.mul_le_mul_left _ h2
   rw [Nat.mul_comm (b ^ xs.length) b];rw [Nat.mul_add] at h3;omega
theorem digs_val {b:Nat} (hb:2≤b) (l:List Nat) (h:∀ x ∈ l,x < b) (hl:∀ x,l.getLast? = some x→x ≠ 0):digs b (val b l)=l:=by
 induction l with
 | nil=>exact digs_zero b
 | cons x xs ih =>
   have hx:=h x (by simp)
   have hv:0 < val b (x :: xs):=by
    simp only [val]
    cases xs with
    | nil=>have:=hl x rfl;simp [val];omega
    | cons y ys =>
      have e:=ih (fun z hz=>h z (by simp [hz])) (fun z hz=>hl z (by rw [List.getLast?_cons_cons];exact hz))
      have:0 < val b (y :: ys):=by
       rcases Nat.eq_zero_or_pos (val b (y :: ys)) with h0 | h0
       ·rw [h0,digs_zero] at e;simp at e
       ·exact h0
      have:=Nat.mul_pos (show 0 < b by omega) this
      omega
   rw [digs_pos hb hv]
   simp only [val]
   rw [Nat.add_mul_mod_self_left,Nat.mod_eq_of_lt hx,Nat.add_mul_div_left _ _ (by omega),Nat.div_eq_of_lt hx,Nat.zero_add]
   cases xs with
   | nil=>simp [val,digs_zero]
   | cons y ys=>rw [ih (fun z hz=>h z (by simp [hz])) (fun z hz=>hl z (by rw [List.getLast?_cons_cons];exact hz))]
theorem val_zeros (b k:Nat):val b (List.replicate k 0)=0:=by
 induction k with
 | zero=>rfl
 | succ k ih=>simp [List.replicate_succ,val,ih]
theorem zeros_of {l:List Nat} (h:∀ j:Nat,l[j]?.getD 0=0):l=List.replicate l.length 0:=by
 apply List.ext_getElem (by simp)
 intro i h1 h2
 have:=h i
 rw [List.getElem?_eq_getElem h1] at this
 simpa using this
theorem val_take_zeros (b:Nat) (l:List Nat) (k:Nat) (h:∀ j:Nat,k≤j→l[j]?.getD 0=0):val b (l.take k)=val b l:=by
 have e:val b l=val b (l.take k ++ l.drop k):=by rw [List.take_append_drop]
 rw [e,val_append,zeros_of (l:=l.drop k) (fun j=>by rw [List.getElem?_drop];exact h _ (by omega)),val_zeros];simp
theorem trim_eq {b:Nat} (hb:2≤b) (l:List Nat) (k:Nat) (h:∀ x ∈ l,x < b) (hk:k≤l.length) (hz:∀ j:Nat,k≤j→l[j]?.getD 0=0) (hl:0 < k→l[k - 1]?.getD 0 ≠ 0):l.take k=digs b (val b l):=by
 rw [← val_take_zeros b l k hz,digs_val hb _ (fun x hx=>h x (List.mem_of_mem_take hx))]
 intro x hx
 rw [List.getLast?_eq_getElem?,List.length_take,Nat.min_eq_left hk] at hx
 rcases Nat.eq_zero_or_pos k with rfl | h0
 ·simp at hx
 ·rw [List.getElem?_take,if_pos (by omega)] at hx
  have:=hl h0
  rw [hx] at this
  simpa using this
theorem digs_len_le {b:Nat} (hb:2≤b) (l:List Nat) (h:∀ x ∈ l,x < b):(digs b (val b l)).length≤l.length:=by
 induction l with
 | nil=>simp [val,digs_zero]
 | cons x xs ih =>
   have hx:=h x (by simp)
   have h1:=ih fun y hy=>h y (by simp [hy])
   rcases Nat.eq_zero_or_pos (val b (x :: xs)) with h0 | h0
   ·rw [h0,digs_zero];simp
   ·rw [digs_pos hb h0]
    simp only [val]
    rw [Nat.add_mul_div_left _ _ (by omega),Nat.div_eq_of_lt hx,Nat.zero_add]
    simp;exact h1
theorem digs_last {b:Nat} (hb:2≤b) (n:Nat):∀ x,(digs b n).getLast? = some x→x ≠ 0:=by
 induction n using Nat.strongRecOn with
 | _ n ih =>
   intro x hx
   by_cases hn:n=0
   ·subst hn;rw [digs_zero] at hx;simp at hx
   ·rw [digs_pos hb (by omega)] at hx
    by_cases hz:n / b=0
    ·rw [hz,digs_zero] at hx
     simp at hx
     have:=Nat.mod_add_div n b
     rw [hz] at this
     omega
    ·rw [digs_pos hb (Nat.pos_of_ne_zero hz),List.getLast?_cons_cons,← digs_pos hb (Nat.pos_of_ne_zero hz)] at hx
     exact ih _ (Nat.div_lt_self (by omega) (by omega)) x hx
theorem digs_len_pos {b n:Nat} (hb:2≤b):(digs b n).length=0 ↔ n=0:=by
 constructor
 ·intro h
  have:=val_digs hb n
  rw [List.eq_nil_of_length_eq_zero h] at this
  exact this.symm
 ·rintro rfl;rw [digs_zero];rfl
theorem pow_le_of_digs {b n:Nat} (hb:2≤b) (hn:0 < n):b ^ ((digs b n).length - 1)≤n:=by
 induction n using Nat.strongRecOn with
 | _ n ih =>
   rw [digs_pos hb hn]
   simp only [List.length_cons,Nat.add_sub_cancel]
   by_cases hz:n / b=0
   ·rw [hz,digs_zero];simp;omega
   ·have h1:=ih _ (Nat.div_lt_self (by omega) (by omega)) (Nat.pos_of_ne_zero hz)
    have h2:(digs b (n / b)).length ≠ 0:=fun h=>hz ((digs_len_pos hb).1 h)
    obtain ⟨m,hm⟩:∃ m,(digs b (n / b)).length=m + 1:=⟨_,(Nat.sub_add_cancel (by omega)).symm⟩
    rw [hm] at h1 ⊢
    rw [Nat.pow_succ]
    exact Nat.le_trans (Nat.mul_le_mul_right _ h1) (Nat.div_mul_le_self n b)
theorem lt_pow_digs {b:Nat} (hb:2≤b) (n:Nat):n < b ^ (digs b n).length:=by
 have:=val_lt (digs b n) (digs_lt hb n)
 rwa [val_digs hb] at this
theorem digs_len_lt {b m n:Nat} (hb:2≤b) (h:(digs b m).length < (digs b n).length):m < n:=by
 have h1:=lt_pow_digs hb m
 have h2:0 < n:=by
  rcases Nat.eq_zero_or_pos n with rfl | h2
  ·rw [digs_zero] at h;simp at h
  ·exact h2
 have h3:=pow_le_of_digs hb h2
 have h4:b ^ (digs b m).length≤b ^ ((digs b n).length - 1):=Nat.pow_le_pow_right (by omega) (by omega)
 omega
theorem digs_len_mono {b m n:Nat} (hb:2≤b) (h:m≤n):(digs b m).length≤(digs b n).length:=by
 rcases Nat.lt_or_ge (digs b n).length (digs b m).length with h1 | h1
 ·have:=digs_len_lt hb h1;omega
 ·exact h1
theorem digs_inj {b m n:Nat} (hb:2≤b) (h:digs b m=digs b n):m=n:=by rw [← val_digs hb m,h,val_digs hb]
theorem val_cmp {b:Nat} (l m:List Nat) (i:Nat) (hl:∀ x ∈ l,x < b) (hlen:l.length=m.length) (hi:i < l.length) (heq:l.drop (i + 1)=m.drop (i + 1)) (hlt:l[i]?.getD 0 < m[i]?.getD 0):val b l < val b m:=by
 have e1:val b l=val b (l.take i ++ (l[i] :: l.drop (i + 1))):=by rw [List.getElem_cons_drop,List.take_append_drop]
 have e2:val b m=val b (m.take i ++ (m[i]'(by omega) :: m.drop (i + 1))):=by rw [List.getElem_cons_drop,List.take_append_drop]
 rw [e1,e2,val_append,val_append]
 simp only [val,List.length_take,← hlen,heq]
 rw [List.getElem?_eq_getElem hi,List.getElem?_eq_getElem (by omega)] at hlt
 simp only [Option.getD_some] at hlt
 have h1:val b (l.take i) < b ^ i:=by
  have:=val_lt (b:=b) (l.take i) (fun x hx=>hl x (List.mem_of_mem_take hx))
  rwa [List.length_take,Nat.min_eq_left (by omega)] at this
 rw [Nat.min_eq_left (by omega),Nat.mul_add,Nat.mul_add]
 have h2:b ^ i * (l[i] + 1)≤b ^ i * (m[i]'(by omega)):=Nat.mul_le_mul_left _ hlt
 rw [Nat.mul_add] at h2
 omega
end Go.Proofs.YtfflmmbhpchloaaGreatDoor
end
section
open Go.RowKit
namespace Go.Proofs.YtfflmmbhpchloaaGreatDoor
theorem block_add (a:Addr) (n:Nat):(a.add n).block=a.block:=by unfold Addr.add;split <;> rfl
def Rd (f:Nat→Value) (w:World) (B:Nat) (A:Option Addr) (xs:List Nat):Prop :=
 0 < xs.length → ∃ ad,A=some ad∧ad.block < B ∧ ∀ j x,xs[j]? = some x→w.cell? (ad.add j)=some (f x)
def U32 (x:Nat):Value:=.int .u32 (x:Int)
def U8 (x:Nat):Value:=.int .u8 (x:Int)
section
variable {f:Nat→Value} {w w':World} {B B':Nat} {A:Option Addr} {xs:List Nat}
theorem Rd.nil:Rd f w B A []:=fun h=>absurd h (by simp)
theorem Rd.at_ {k:Nat} (h:Rd f w B A xs) (hk:k < xs.length):∃ ad,A=some ad∧ad.block < B∧w.cell? (ad.add k)=some (f xs[k]):=by
 obtain ⟨ad,e,hb,hc⟩:=h (by omega)
 exact ⟨ad,e,hb,hc k _ (List.getElem?_eq_getElem hk)⟩
theorem Rd.keep (h:Rd f w B A xs) (hk:∀ p:Addr,p.block < B→w'.cell? p=w.cell? p):Rd f w' B A xs:=fun hn=>by
 obtain ⟨ad,e,hb,hc⟩:=h hn
 exact ⟨ad,e,hb,fun j u hu=>(hk _ (by rw [block_add];exact hb)).trans (hc j u hu)⟩
theorem Rd.more (h:Rd f w B A xs) (hB:B≤B'):Rd f w B' A xs:=fun hn=>by
 obtain ⟨ad,e,hb,hc⟩:=h hn
 exact ⟨ad,e,by omega,hc⟩
theorem Rd.below (h:Rd f w B A xs) (hb:Below B w w'):Rd f w' B A xs:=h.keep fun _ hp=>hb.cell hp
theorem Rd.drewN (h:Rd f w B A xs) (k:Nat):Rd f (w.drewN k) B A xs:=h
theorem Rd.take (h:Rd f w B A xs) (k:Nat):Rd f w B A (xs.take k):=fun hn=>by
 obtain ⟨ad,e,hb,hc⟩:=h (by rw [List.length_take] at hn;omega)
 refine ⟨ad,e,hb,fun j x hx=>hc j x ?_⟩
 rw [List.getElem?_take] at hx
 split at hx
 ·exact hx
 ·cases hx
end
def W32:Nat:=4294967296
theorem W32_eq:W32=4294967296:=rfl
def trimmed (ws:List Nat):Nat:=(digs W32 (val W32 ws)).length
def Good32 (ws:List Nat):Prop:=∀ x ∈ ws,x < W32
theorem trimmed_of {ws:List Nat} {k:Nat} (h:Good32 ws) (hk:k≤ws.length) (hz:∀ j:Nat,k≤j→ws[j]?.getD 0=0) (hl:0 < k→ws[k - 1]?.getD 0 ≠ 0):trimmed ws=k:=by
 unfold trimmed
 rw [← trim_eq (by decide) ws k h hk hz hl,List.length_take,Nat.min_eq_left hk]
theorem slice_ret {A:Option Addr} {c m n:Nat} (h:m=n):Ending.returned (.slice A m c) = .returned (.slice A n c):=by rw [h]
def lenOf:Value→Nat | .slice _ k _=>k | _=>0
theorem hide {p:Prop} (h:p):Hid p:=h
theorem trim_any (A:Option Addr) (ws:List Nat) (c:Nat) (w:World) (B:Nat) (h:Rd U32 w B A ws) (hw:Good32 ws) (hl:ws.length≤1000000) (hc:ws.length≤c) :
 Calls Tryz.prog 75 #[.slice A ws.length c] w fun e w'=>e = .returned (.slice A (trimmed ws) c)∧w=w':=by
 obtain ⟨n,hn⟩:∃ n,n=ws.length:=⟨_,rfl⟩
 have hl':n≤1000000:=by omega
 have hc':n≤c:=by omega
 rw [← hn]
 have HN:=hide hn;have HW:=hide hw;have HR:=hide h
 clear hw hn hl hc h
 go_enter Tryz.func75,Tryz.ntmps75
 go_wp2
 go_loop [0] (fun l=>∃ k:Nat,k≤n∧Hid (∀ j:Nat,k≤j→ws[j]?.getD 0=0)∧l = .slice A k c) lenOf
 case atStart=>exact ⟨n,Nat.le_refl _,fun j hj=>by rw [List.getElem?_eq_none (by have:=HN.out;omega)];rfl,rfl⟩
 case round =>
  obtain ⟨k,hk,hz,rfl⟩:=hrel
  by_cases h0:k=0
  ·subst h0
   go_wp2
   go_ret
   exact ⟨slice_ret (trimmed_of HW.out (by omega) hz.out (by omega)).symm,rfl⟩
  ·obtain ⟨m,rfl⟩:∃ m,k=m + 1:=⟨k - 1,by omega⟩
   have hm:m < ws.length:=by have:=HN.out;omega
   obtain ⟨ad,rfl,hb,hcell⟩:=HR.out.at_ hm
   have hx:ws[m]?.getD 0=ws[m]:=by rw [List.getElem?_eq_getElem hm];rfl
   obtain ⟨x,hxe⟩:∃ x,x=ws[m]:=⟨_,rfl⟩
   rw [← hxe] at hcell hx
   unfold U32 at hcell
   have HX:=hide hx
   clear hx hxe hm
   by_cases hx0:x=0
   ·have hx1:((x:Int) == 0)=true:=by subst hx0;rfl
    have HX0:=hide hx0
    clear hx0
    go_wp2
    go_round
    case rel=>exact ⟨m,by omega,fun j hj=>by rcases Nat.eq_or_lt_of_le hj with rfl | hj;(· rw [HX.out,HX0.out]);(· exact hz.out j hj),by first | rfl | simp⟩
    case measure=>simp [lenOf]
   ·have hx1:((x:Int) == 0)=false:=by simp;omega
    have HX0:=hide hx0
    clear hx0
    go_wp2
    go_ret
    exact ⟨slice_ret (trimmed_of HW.out (by have:=HN.out;omega) hz.out (fun _=>by rw [Nat.add_sub_cancel,HX.out];exact HX0.out)).symm,rfl⟩
theorem quiet_left {P:Program} {f:FuncId} {args:Array Value} {w:World} {n:Nat} {v:Value}
 (h:Calls P f args (w.drewN n) fun e w'=>e = .returned v∧w.drewN n=w'):Calls P f args (w.drewN n) fun e w''=>e = .returned v ∧ ∃ m,w''=w.drewN m :=
 h.mono fun _ _ ⟨he,hm⟩=>⟨he,n,hm.symm⟩
theorem drew_cell {W w:World} {n:Nat} {p:Addr} {v:Option Value} (h:W=w.drewN n) (hc:w.cell? p=v):W.cell? p=v:=by rw [h];exact hc
theorem drew_hid {W wr w:World} {n q:Nat} (h:W=wr.drewN n) (hq:Hid (wr=w.drewN q)):Hid (W=w.drewN (q + n)):=by unfold Hid;rw [h,hq.out,World.drewN_drewN]
theorem drew_more {wr w:World} {n q:Nat} (hq:Hid (wr=w.drewN q)):Hid (wr.drewN n=w.drewN (q + n)):=by unfold Hid;rw [hq.out,World.drewN_drewN]
theorem drew_end {wr w:World} {n q:Nat} (hq:Hid (wr=w.drewN q)):∃ m,wr.drewN n=w.drewN m:=⟨_,(drew_more hq).out⟩
def cmpI (a b:Nat):Int:=if a < b then -1 else if b < a then 1 else 0
theorem cmpI_lt {a b:Nat} (h:a < b):cmpI a b = -1:=if_pos h
theorem cmpI_gt {a b:Nat} (h:b < a):cmpI a b=1:=by unfold cmpI;rw [if_neg (by omega),if_pos h]
theorem cmpI_eq {a b:Nat} (h:a=b):cmpI a b=0:=by unfold cmpI;rw [if_neg (by omega),if_neg (by omega)]
theorem int_ret {k:IntKind} {a b:Int} (h:a=b):Ending.returned (.int k a) = .returned (.int k b):=by rw [h]
theorem cmpInt_any (a b:Nat) (w:World) :
 Calls Tryz.prog 116 #[.int .i64 a,.int .i64 b] w fun e w'=>e = .returned (.int .i64 (cmpI a b))∧w=w':=by
 rcases Nat.lt_trichotomy a b with h | h | h
 ·go_enter Tryz.func116,Tryz.ntmps116
  go_wp2
  go_ret
  exact ⟨int_ret (cmpI_lt h).symm,rfl⟩
 ·have H:=hide h
  have h1:¬ a < b:=by omega
  have h2:¬ b < a:=by omega
  clear h
  go_enter Tryz.func116,Tryz.ntmps116
  go_wp2
  go_ret
  exact ⟨int_ret (cmpI_eq H.out).symm,rfl⟩
 ·have h1:¬ a < b:=by omega
  go_enter Tryz.func116,Tryz.ntmps116
  go_wp2
  go_ret
  exact ⟨int_ret (cmpI_gt h).symm,rfl⟩
theorem cmpWord_any (a b:Nat) (w:World) :
 Calls Tryz.prog 144 #[.int .u32 a,.int .u32 b] w fun e w'=>e = .returned (.int .i64 (cmpI a b))∧w=w':=by
 rcases Nat.lt_trichotomy a b with h | h | h
 ·go_enter Tryz.func144,Tryz.ntmps144
  go_wp2
  go_ret
  exact ⟨int_ret (cmpI_lt h).symm,rfl⟩
 ·have H:=hide h
  have h1:¬ a < b:=by omega
  have h2:¬ b < a:=by omega
  clear h
  go_enter Tryz.func144,Tryz.ntmps144
  go_wp2
  go_ret
  exact ⟨int_ret (cmpI_eq H.out).symm,rfl⟩
 ·have h1:¬ a < b:=by omega
  go_enter Tryz.func144,Tryz.ntmps144
  go_wp2
  go_ret
  exact ⟨int_ret (cmpI_gt h).symm,rfl⟩
def dl (m:Nat):Nat:=(digs W32 m).length
theorem cmpI_len {m n:Nat} (h:dl m ≠ dl n):cmpI (dl m) (dl n)=cmpI m n:=by
 rcases Nat.lt_or_ge (dl m) (dl n) with h1 | h1
 ·rw [cmpI_lt h1,cmpI_lt (digs_len_lt (b:=W32) (by decide) h1)]
 ·rw [cmpI_gt (by omega),cmpI_gt (digs_len_lt (b:=W32) (by decide) (show dl n < dl m by omega))]
theorem cmpI_at {m n i:Nat} (hlen:dl m=dl n) (hi:i < dl m) (heq:(digs W32 m).drop (i + 1)=(digs W32 n).drop (i + 1)) {x y:Nat} (hx:(digs W32 m)[i]? = some x) (hy:(digs W32 n)[i]? = some y) (hne:x ≠ y):cmpI x y=cmpI m n:=by
 have key:∀ {m n x y:Nat},dl m=dl n→i < dl m→(digs W32 m).drop (i + 1)=(digs W32 n).drop (i + 1)→(digs W32 m)[i]? = some x→(digs W32 n)[i]? = some y→x < y→m < n:=by
  intro m n x y hlen hi heq hx hy hlt
  have:=val_cmp (b:=W32) (digs W32 m) (digs W32 n) i (digs_lt (by decide) m) hlen hi heq (by rw [hx,hy];exact hlt)
  rwa [val_digs (by decide),val_digs (by decide)] at this
 rcases Nat.lt_or_ge x y with h | h
 ·rw [cmpI_lt h,cmpI_lt (key hlen hi heq hx hy h)]
 ·rw [cmpI_gt (by omega),cmpI_gt (key hlen.symm (by omega) heq.symm hy hx (by omega))]
theorem compare_any (A A':Option Addr) (m n:Nat) (c c':Nat) (w:World) (B:Nat) (h:Rd U32 w B A (digs W32 m)) (h':Rd U32 w B A' (digs W32 n)) (hl:dl m≤1000000) (hl':dl n≤1000000) (hc:dl m≤c) (hc':dl n≤c') :
 Calls Tryz.prog 100 #[.slice A (dl m) c,.slice A' (dl n) c'] w fun e w'=>e = .returned (.int .i64 (cmpI m n)) ∧ ∃ q,w'=w.drewN q:=by
 obtain ⟨k,hk⟩:∃ k,k=dl m:=⟨_,rfl⟩
 obtain ⟨k',hk'⟩:∃ k,k=dl n:=⟨_,rfl⟩
 have HR:=hide h;have HR':=hide h'
 rw [← hk] at hl hc ⊢
 rw [← hk'] at hl' hc' ⊢
 have HK:=hide hk;have HK':=hide hk'
 clear hk hk' h h'
 by_cases hlen:k=k'
 ·subst hlen
  go_enter Tryz.func100,Tryz.ntmps100
  go_wp2
  go_loopw [5] (fun i wr=>∃ j q:Nat,j≤k∧Hid ((digs W32 m).drop j=(digs W32 n).drop j)∧i = .int .i64 ((j:Int) - 1)∧Hid (wr=w.drewN q)) (fun i _=>(intOf i + 1).toNat)
  case atStart=>exact ⟨k,0,Nat.le_refl _,by unfold Hid;rw [List.drop_of_length_le (Nat.le_of_eq HK.out.symm),List.drop_of_length_le (Nat.le_of_eq HK'.out.symm)],rfl,rfl⟩
  case round =>
   obtain ⟨j,q,hj,hd,rfl,HQ⟩:=hrel
   by_cases h0:j=0
   ·subst h0
    go_wp2
    go_ret
    exact ⟨int_ret (cmpI_eq (digs_inj (b:=W32) (by decide) hd.out)).symm,q,HQ.out⟩
   ·obtain ⟨i,rfl⟩:∃ i,j=i + 1:=⟨j - 1,by omega⟩
    have hi:i < (digs W32 m).length:=Nat.lt_of_lt_of_eq (by omega) HK.out
    have hi':i < (digs W32 n).length:=Nat.lt_of_lt_of_eq (by omega) HK'.out
    obtain ⟨ad,rfl,hb,hcell⟩:=HR.out.at_ hi
    obtain ⟨ad',rfl,hb',hcell'⟩:=HR'.out.at_ hi'
    obtain ⟨x,hx⟩:∃ x,x=(digs W32 m)[i]:=⟨_,rfl⟩
    obtain ⟨y,hy⟩:∃ x,x=(digs W32 n)[i]:=⟨_,rfl⟩
    rw [← hx] at hcell
    rw [← hy] at hcell'
    have HX:Hid ((digs W32 m)[i]? = some x):=by unfold Hid;rw [hx,List.getElem?_eq_getElem hi]
    have HY:Hid ((digs W32 n)[i]? = some y):=by unfold Hid;rw [hy,List.getElem?_eq_getElem hi']
    unfold U32 at hcell hcell'
    replace hcell:wr.cell? (ad.add i)=some (.int .u32 x):=by rw [HQ.out];exact hcell
    replace hcell':wr.cell? (ad'.add i)=some (.int .u32 y):=by rw [HQ.out];exact hcell'
    have hli:i < dl m:=hi
    have HLI:=hide hli
    have hdrop:x=y→(digs W32 m).drop i=(digs W32 n).drop i:=fun e=>by
     rw [List.drop_eq_getElem_cons hi,List.drop_eq_getElem_cons hi',← hx,← hy,e,hd.out]
    have HD:=hide hdrop
    clear hx hy hi hi' hli hdrop
    by_cases hxy:x=y
    ·subst hxy
     go_wp2_with fail
     go_quiet (fail)
     go_wp2
     go_roundw
     case rel=>exact ⟨i,_,by omega,HD.out (by first | rfl | trivial),rfl,drew_more HQ⟩
     case measure=>simp [intOf]
    ·go_wp2_with fail
     go_quiet (fail)
     rename_i nq
     obtain ⟨W2,hW2⟩:∃ W2,W2=wr.drewN nq:=⟨_,rfl⟩
     rw [← hW2]
     have HC:=drew_cell hW2 hcell
     have HC':=drew_cell hW2 hcell'
     have HW2:=drew_hid hW2 HQ
     clear hW2 hcell hcell' HQ
     go_wp2_with fail
     go_quiet ((go_at_call 144;exact quiet_left (cmpWord_any x y _)))
     go_wp2
     go_ret
     exact ⟨int_ret (cmpI_at (by rw [← HK.out];exact HK'.out) HLI.out hd.out HX.out HY.out hxy),drew_end HW2⟩
 ·go_enter Tryz.func100,Tryz.ntmps100
  go_wp2_with (go_at_call 116;refine (cmpInt_any _ _ _).mono ?_;rintro e w' ⟨rfl,rfl⟩)
  go_ret
  exact ⟨int_ret (by rw [HK.out,HK'.out];exact cmpI_len (by rw [← HK.out,← HK'.out];exact hlen)),0,rfl⟩
def Arg (w:World) (B:Nat) (A:Option Addr) (n c m:Nat):Prop :=
 ∃ ws:List Nat,n=ws.length∧n≤c∧n≤100000∧Rd U32 w B A ws∧Good32 ws∧val W32 ws=m
def Can (w:World) (B:Nat) (A:Option Addr) (c m:Nat):Prop:=dl m≤c∧Rd U32 w B A (digs W32 m)
theorem digs_take {b:Nat} (hb:2≤b) (l:List Nat) (h:∀ x ∈ l,x < b):l.take (digs b (val b l)).length=digs b (val b l):=by
 have key:∀ k,k≤l.length→(∀ j:Nat,k≤j→l[j]?.getD 0=0) → ∃ i,i≤l.length∧(∀ j:Nat,i≤j→l[j]?.getD 0=0)∧(0 < i→l[i - 1]?.getD 0 ≠ 0):=by
  intro k
  induction k with
  | zero=>exact fun hk hz=>⟨0,hk,hz,fun h=>absurd h (by omega)⟩
  | succ k ih =>
    intro hk hz
    by_cases h0:l[k]?.getD 0=0
    ·exact ih (by omega) fun j hj=>by rcases Nat.eq_or_lt_of_le hj with rfl | hj;(· exact h0);(· exact hz j hj)
    ·exact ⟨k + 1,hk,hz,fun _=>h0⟩
 obtain ⟨i,hi,hz,hl⟩:=key l.length (Nat.le_refl _) fun j hj=>by rw [List.getElem?_eq_none hj];rfl
 have e:=trim_eq hb l i h hi hz hl
 rw [← e,List.length_take,Nat.min_eq_left hi,e]
section
variable {w w':World} {B B':Nat} {A:Option Addr} {n c m:Nat}
theorem Arg.digs (h:Arg w B A n c m):Can w B A c m∧dl m≤n:=by
 obtain ⟨ws,rfl,hc,hl,hr,hg,rfl⟩:=h
 have hle:dl (val W32 ws)≤ws.length:=digs_len_le (by decide) ws hg
 refine ⟨⟨by omega,?_⟩,hle⟩
 have:=hr.take (dl (val W32 ws))
 rwa [show ws.take (dl (val W32 ws))=Go.Proofs.YtfflmmbhpchloaaGreatDoor.digs W32 (val W32 ws) from digs_take (by decide) ws hg] at this
theorem Can.arg (h:Can w B A c m) (hl:dl m≤100000):Arg w B A (dl m) c m :=
 ⟨Go.Proofs.YtfflmmbhpchloaaGreatDoor.digs W32 m,rfl,h.1,hl,h.2,digs_lt (by decide) m,val_digs (by decide) m⟩
theorem Arg.below (h:Arg w B A n c m) (hb:Below B w w'):Arg w' B A n c m:=by
 obtain ⟨ws,h1,h2,h3,hr,h4⟩:=h
 exact ⟨ws,h1,h2,h3,hr.below hb,h4⟩
theorem Arg.more (h:Arg w B A n c m) (hb:B≤B'):Arg w B' A n c m:=by
 obtain ⟨ws,h1,h2,h3,hr,h4⟩:=h
 exact ⟨ws,h1,h2,h3,hr.more hb,h4⟩
theorem Can.below (h:Can w B A c m) (hb:Below B w w'):Can w' B A c m:=⟨h.1,h.2.below hb⟩
theorem Can.more (h:Can w B A c m) (hb:B≤B'):Can w B' A c m:=⟨h.1,h.2.more hb⟩
end
theorem trim_arg {A:Option Addr} {n c m:Nat} {w:World} {B:Nat} (h:Arg w B A n c m) :
 Calls Tryz.prog 75 #[.slice A n c] w fun e w'=>e = .returned (.slice A (dl m) c)∧w=w':=by
 obtain ⟨ws,rfl,hc,hl,hr,hg,rfl⟩:=h
 exact trim_any A ws c w B hr hg (by omega) hc
theorem compare_can {A A':Option Addr} {m n:Nat} {c c':Nat} {w:World} {B:Nat} (h:Can w B A c m) (h':Can w B A' c' n) (hl:dl m≤100000) (hl':dl n≤100000) :
 Calls Tryz.prog 100 #[.slice A (dl m) c,.slice A' (dl n) c'] w fun e w'=>e = .returned (.int .i64 (cmpI m n)) ∧ ∃ q,w'=w.drewN q :=
 compare_any A A' m n c c' w B h.2 h'.2 (by omega) (by omega) h.1 h'.1
theorem below_drewN {B:Nat} {a w:World} (h:Below B a w) (n:Nat):Below B a (w.drewN n):=⟨h.os,h.tape,h.output,h.size,h.block⟩
theorem below2 (w:World) (o1 o2:Obj) (k:Nat):Below w.heap.size w (((w.alloc o1).alloc o2).drewN k) :=
 below_drewN (((Below.refl _ _).alloc (Nat.le_refl _) _).alloc (by simp) _) k
theorem Cmp_any {A A':Option Addr} {n n' c c' m m':Nat} {w:World} (h:Arg w w.heap.size A n c m) (h':Arg w w.heap.size A' n' c' m') :
 Calls Tryz.prog 65 #[.agg #[.slice A n c],.agg #[.slice A' n' c']] w fun e w'=>e = .returned (.int .i64 (cmpI m m'))∧Below w.heap.size w w':=by
 have H:Hid (∀ o1 o2 k,Arg (((w.alloc o1).alloc o2).drewN k) w.heap.size A n c m):=fun o1 o2 k=>h.below (below2 w o1 o2 k)
 have H':Hid (∀ o1 o2 k,Arg (((w.alloc o1).alloc o2).drewN k) w.heap.size A' n' c' m'):=fun o1 o2 k=>h'.below (below2 w o1 o2 k)
 have hl:dl m≤100000:=by have:=h.digs.2;obtain ⟨_,_,_,h3,_⟩:=h;omega
 have hl':dl m'≤100000:=by have:=h'.digs.2;obtain ⟨_,_,_,h3,_⟩:=h';omega
 clear h h'
 go_enter Tryz.func65,Tryz.ntmps65
 go_wp2_with fail
 go_quiet (first | (go_at_call 75;first | exact quiet_left (trim_arg (H.out _ _ _)) | exact quiet_left (trim_arg (H'.out _ _ _))) | (go_at_call 100;exact Calls.quiet_of (compare_can (H.out _ _ _).digs.1 (H'.out _ _ _).digs.1 hl hl')))
 go_wp2
 go_ret
 exact ⟨rfl,below2 _ _ _ _⟩
end Go.Proofs.YtfflmmbhpchloaaGreatDoor
end
