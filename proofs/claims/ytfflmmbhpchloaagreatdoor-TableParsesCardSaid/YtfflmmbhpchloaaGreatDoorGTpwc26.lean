/- Each theorem here says its own conditions. -/
import Derived.Test.YtfflmmbhpchloaaGreatDoorGTpwc24
import Derived.Test.YtfflmmbhpchloaaGreatDoorGTpwc25
set_option maxRecDepth 100000
set_option maxHeartbeats 16000000
section
open Go.RowKit
open Go.Proofs.YtfflmmbhpchloaaGreatDoor.V
namespace Go.Proofs.YtfflmmbhpchloaaGreatDoor
theorem numL_dlT {l:List UInt8} (hd:digB l=true):numL l < W32 ^ (l.length + 1):=by
 have h1:=numL_lt l (by unfold digB at hd;rw [Bool.and_eq_true] at hd;exact hd.2)
 refine Nat.lt_of_lt_of_le h1 ?_
 rw [Nat.pow_succ]
 exact Nat.le_trans (Nat.pow_le_pow_left (show 10≤W32 by decide) _) (Nat.le_mul_of_pos_right _ (by decide))
theorem w32_upT {x i j:Nat} (h:x < W32 ^ i) (hij:i≤j):x < W32 ^ j:=Nat.lt_of_lt_of_le h (Nat.pow_le_pow_right (by decide) hij)
theorem zparse_d {t:ByteArray} (hs:t.size≤99999):(∃ p,zD t.data.toList=some p∧p.natAbs < W32 ^ (t.size + 1) ∧ ∀ W',Calls Tryz.prog 214 #[.string t] W' (ZPR W' p)) ∨ (zD t.data.toList=none ∧ ∀ W',Calls Tryz.prog 214 #[.string t] W' (ZPN W')):=by
 by_cases hm:t.data.toList.head? = some 45
 ·obtain ⟨l,h⟩:∃ l,t.data.toList=45 :: l:=by
   cases e:t.data.toList with
   | nil=>rw [e] at hm;cases hm
   | cons a l=>rw [e] at hm;injection hm with hm;exact ⟨l,by rw [hm]⟩
  have hl:l.length + 1=t.size:=by have:=congrArg List.length h;rw [← size_list,List.length_cons] at this;omega
  by_cases hd:digB l=true
  ·have hb:=w32_upT (numL_dlT hd) (show l.length + 1≤t.size + 1 by omega)
   refine .inl ⟨zi true (numL l),?_,by rw [zi_abs];exact hb,fun W'=>zparse_h (b:=true) (l:=l) (by omega) h (by intro h;cases h) hd rfl⟩
   unfold zD;rw [if_pos hm,h,List.tail_cons,if_pos hd]
  ·refine .inr ⟨?_,fun W'=>zparse_n (b:=true) (l:=l) (by omega) h (by intro h;cases h) hd⟩
   unfold zD;rw [if_pos hm,h,List.tail_cons,if_neg hd]
 ·by_cases hd:digB t.data.toList=true
  ·have hb:=w32_upT (numL_dlT hd) (show t.data.toList.length + 1≤t.size + 1 by rw [← size_list];omega)
   refine .inl ⟨zi false (numL t.data.toList),?_,by rw [zi_abs];exact hb,fun W'=>zparse_h (b:=false) (l:=t.data.toList) (by omega) rfl (fun _=>hm) hd rfl⟩
   unfold zD;rw [if_neg hm,if_pos hd]
  ·refine .inr ⟨?_,fun W'=>zparse_n (b:=false) (l:=t.data.toList) (by omega) rfl (fun _=>hm) hd⟩
   unfold zD;rw [if_neg hm,if_neg hd]
def OfR (W:World) (o:Option Rat) (e:Ending) (w':World):Prop:=match o with
 | some r=>OfYes W r e w'
 | none=>OfNo W e w'
theorem qparse_d {s:ByteArray} (hs:s.size≤100):(∀ r,qD s=some r→Bd r 101) ∧ ∀ W,Calls Tryz.prog 181 #[.string s] W (OfR W (qD s)):=by
 obtain ⟨i,hi⟩:∃ i,s.data.toList.findIdx (fun c=>c == 47)=i:=⟨_,rfl⟩
 have hq:qD s=if i < s.size then (zD (s.data.toList.take i)).bind fun p=>if digB (s.data.toList.drop (i + 1))=true then (if numL (s.data.toList.drop (i + 1))=0 then none else some (mkRat p (numL (s.data.toList.drop (i + 1))))) else none
  else (zD s.data.toList).map fun p=>mkRat p 1:=by unfold qD;rw [hi]
 have hpre:∀ j (h:j < s.data.toList.length),j < i→s.data.toList[j] ≠ 47:=fun j h hj e=>by
  have h1:=List.not_of_lt_findIdx (p:=fun c:UInt8=>c == 47) (xs:=s.data.toList) (by rw [hi];exact hj)
  simp [e] at h1
 by_cases hlt:i < s.size
 ·rw [if_pos hlt] at hq
  have hl:i < s.data.toList.length:=by rw [← size_list];exact hlt
  have e47:s.data.toList[i]=47:=by
   have h1:=List.findIdx_getElem (p:=fun c:UInt8=>c == 47) (xs:=s.data.toList) (w:=by rw [hi];exact hl)
   simp only [hi] at h1
   exact eq_of_beq h1
  obtain ⟨t,ht⟩:∃ t:ByteArray,t=⟨(s.data.toList.take i).toArray⟩:=⟨_,rfl⟩
  obtain ⟨u,hu⟩:∃ u:ByteArray,u=⟨(s.data.toList.drop (i + 1)).toArray⟩:=⟨_,rfl⟩
  have htl:t.data.toList=s.data.toList.take i:=by rw [ht]
  have hul:u.data.toList=s.data.toList.drop (i + 1):=by rw [hu]
  have hp:s.data.toList=t.data.toList ++ 47 :: u.data.toList:=by
   rw [htl,hul]
   conv=>lhs;rw [← List.take_append_drop i s.data.toList]
   rw [List.drop_eq_getElem_cons hl,e47]
  have hfree:¬ (47:UInt8) ∈ t.data.toList:=by
   rw [htl]
   intro h
   obtain ⟨j,hj,e⟩:=List.getElem_of_mem h
   rw [List.length_take] at hj
   rw [List.getElem_take] at e
   exact hpre j (by omega) (by omega) e
  have hts:t.size≤99:=by rw [size_list,htl,List.length_take];omega
  have hus:u.size≤99:=by rw [size_list,hul,List.length_drop,← size_list];omega
  rw [← htl,← hul] at hq
  rcases zparse_d (t:=t) (by omega) with ⟨p,hz,hpb,CZ⟩ | ⟨hz,CZ⟩
  ·rw [hz,Option.bind_some] at hq
   by_cases hd:digB u.data.toList=true
   ·rw [if_pos hd] at hq
    obtain ⟨d,hv⟩:∃ d,numL u.data.toList=d:=⟨_,rfl⟩
    rw [hv] at hq
    have hdb:d < W32 ^ 101:=by rw [← hv];exact w32_upT (numL_dlT hd) (by rw [← size_list];omega)
    have hpb':p.natAbs < W32 ^ 101:=w32_upT hpb (by omega)
    by_cases h0:d=0
    ·rw [if_pos h0] at hq
     exact ⟨fun r hr=>(by rw [hq] at hr;cases hr),fun W=>by rw [hq];exact rparse_n3 (by omega) hp hfree CZ hd (by rw [hv,h0])⟩
    ·rw [if_neg h0] at hq
     have h0':0 < d:=by omega
     refine ⟨fun r hr=>?_,fun W=>?_⟩
     ·rw [hq] at hr;injection hr with hr;rw [← hr];exact tt_bd ⟨h0',rfl,hpb',hdb⟩
     ·rw [hq];exact rparse_frac (by omega) hp hfree CZ hd hv h0' (Nat.le_trans (dl_le hpb') (by decide)) (Nat.le_trans (dl_le hdb) (by decide)) rfl
   ·rw [if_neg hd] at hq
    exact ⟨fun r hr=>(by rw [hq] at hr;cases hr),fun W=>by rw [hq];exact rparse_n2 (by omega) hp hfree CZ hd⟩
  ·rw [hz,Option.bind_none] at hq
   exact ⟨fun r hr=>(by rw [hq] at hr;cases hr),fun W=>by rw [hq];exact rparse_n1 (by omega) hp hfree CZ⟩
 ·rw [if_neg hlt] at hq
  have hfree:¬ (47:UInt8) ∈ s.data.toList:=by
   intro h
   obtain ⟨j,hj,e⟩:=List.getElem_of_mem h
   exact hpre j hj (by rw [← size_list] at hj;omega) e
  rcases zparse_d (t:=s) (by omega) with ⟨p,hz,hpb,CZ⟩ | ⟨hz,CZ⟩
  ·rw [hz] at hq
   have hpb':p.natAbs < W32 ^ 101:=w32_upT hpb (by omega)
   have hr1:mkRat p 1=(p:Rat):=by rw [Rat.mkRat_one]
   refine ⟨fun r hr=>?_,fun W=>?_⟩
   ·rw [hq] at hr;injection hr with hr;rw [← hr];show Bd (mkRat p 1) 101;rw [hr1];exact bd_int hpb' (by decide)
   ·rw [hq];exact rparse_int (by omega) hfree CZ (Nat.le_trans (dl_le hpb') (by decide)) rfl
  ·rw [hz,Option.map_none] at hq
   exact ⟨fun r hr=>(by rw [hq] at hr;cases hr),fun W=>by rw [hq];exact rparse_n0 (by omega) hfree CZ⟩
theorem tfrac_h {s:ByteArray} (W:World):Calls Tryz.prog 128 #[.string s] W (OfR W (fracD s)):=by
 unfold fracD
 have HB:=Bel.refl W
 by_cases h:s.size≤100
 ·rw [if_pos h]
  have d:decide ((100:Int) < (s.size:Int))=false:=decide_eq_false (by omega)
  have CP:=khide (qparse_d h).2
  cases hq:qD s with
  | none =>
    rw [hq] at CP
    clear h hq
    go_enter Tryz.func128,Tryz.ntmps128
    go_wp2_with (first | (go_at_call 181;(with_reducible refine (CP.out _).mono ?_);rintro e w1 ⟨rfl,hbk⟩;have HR:=At.up (at_new0 _ _ _) hbk;replace HB:=(HB.al _).up hbk;have hr_0:=HR.c0;have hr_1:=HR.c1;have hr_2:=HR.c2;have hr_l:=HR.lt;have hr_f0:=HR.f0;have hr_f1:=HR.f1;have hr_f2:=HR.f2) | fail)
    refine bodyPost_ret (v:=.tuple #[.agg #[.bool false,.slice none 0 0,.slice none 0 0],.bool false]) (by simp [results,Tryz.results128,go_sem,hr_0,hr_1,hr_2]) rfl ⟨rfl,?_⟩
    exact below3 HB (by omega) _ _ _
  | some r =>
    rw [hq] at CP
    obtain ⟨sg,hsg⟩:∃ s,s=decide (r.num < 0):=⟨_,rfl⟩
    have HSG:=khide hsg
    have CP2:Hid (∀ W',Calls Tryz.prog 181 #[.string s] W' (OfYs W' sg r)):=fun W'=>by rw [HSG.out];exact CP.out W'
    clear h hq hsg CP
    go_enter Tryz.func128,Tryz.ntmps128
    go_wp2_with (first | (go_at_call 181;(with_reducible refine (CP2.out _).mono ?_);rintro e w1 ⟨B,e1,B',e2,rfl,nz,nd,hbk⟩;have HR:=At.up (at_new0 _ _ _) hbk;replace HB:=(HB.al _).up hbk;have hr_0:=HR.c0;have hr_1:=HR.c1;have hr_2:=HR.c2;have hr_l:=HR.lt;have hr_f0:=HR.f0;have hr_f1:=HR.f1;have hr_f2:=HR.f2) | fail)
    refine bodyPost_ret (v:=.tuple #[.agg #[.bool sg,.slice B (dl r.num.natAbs) e1,.slice B' (dl r.den) e2],.bool true]) (by simp [results,Tryz.results128,go_sem,hr_0,hr_1,hr_2]) rfl ?_
    exact ⟨B,e1,B',e2,by rw [HSG.out],by rw [← HSG.out];exact ⟨nz.1.put3 HR now3,nz.2⟩,nd.put3 HR now3,below3 HB (by omega) _ _ _⟩
 ·rw [if_neg h]
  have d:decide ((100:Int) < (s.size:Int))=true:=decide_eq_true (by omega)
  obtain ⟨W1,hW1⟩:∃ X,X=W.alloc (.cells #[.bool false,.slice none 0 0,.slice none 0 0] 51):=⟨_,rfl⟩
  have HR:At W1 W.heap.size [.bool false,.slice none 0 0,.slice none 0 0]:=by rw [hW1];exact at_new0 _ _ _
  have HB1:Bel W W1:=by rw [hW1];exact HB.al _
  have HW:=khide hW1
  clear h hW1
  have hr_0:=HR.c0;have hr_1:=HR.c1;have hr_2:=HR.c2;have hr_l:=HR.lt;have hr_f0:=HR.f0;have hr_f1:=HR.f1;have hr_f2:=HR.f2
  go_enter Tryz.func128,Tryz.ntmps128
  go_upto_region 1 with fail
  rw [← HW.out]
  go_wp2
  refine bodyPost_ret (v:=.tuple #[.agg #[.bool false,.slice none 0 0,.slice none 0 0],.bool false]) (by simp [results,Tryz.results128,go_sem,hr_0,hr_1,hr_2,hr_l]) rfl ⟨rfl,?_⟩
  exact below3 HB1 (by omega) _ _ _
theorem dl_ten (i:Nat) (h:i≤100):dl (10 ^ i)≤100000:=Nat.le_trans (dl_mono (Nat.pow_le_pow_right (by decide) h)) (by
 have:dl (10 ^ 100)≤100000:=by decide +kernel
 exact this)
theorem tlong_h {W:World} {b:Bool} {A A':Option Addr} {n c n' c':Nat} {r:Rat} (h1:ZA W b A n c r.num) (h2:Nm W A' n' c' r.den):Calls Tryz.prog 186 #[.agg #[.bool b,.slice A n c,.slice A' n' c']] W (RetB W (longB r)):=by
 have CO:Hid (∀ W',Calls Tryz.prog 66 #[.int .u64 10] W' (NumR W' 10)):=fun W'=>of_h (v:=10) (by omega)
 obtain ⟨t,ht⟩:∃ t,t=10 ^ 100:=⟨_,rfl⟩
 have CP:Hid (∀ W' B k e,Nm W' B k e 10→Calls Tryz.prog 212 #[.agg #[.slice B k e],.int .i64 100] W' (NumR W' t)):=fun W' B k e hn=>ht ▸ pow_h (k:=100) hn (by omega) dl_ten rfl
 obtain ⟨x,hx⟩:∃ x,cmpI r.num.natAbs t=x:=⟨_,rfl⟩
 obtain ⟨y,hy⟩:∃ y,cmpI r.den t=y:=⟨_,rfl⟩
 have CX:Hid (∀ W' B k e,Bel W W'→Nm W' B k e t→Calls Tryz.prog 65 #[.agg #[.slice A n c],.agg #[.slice B k e]] W' (IntPost W' x)):=fun W' B k e hb hn=>cmp_h (h1.1.up hb.hid) hn hx
 have CY:Hid (∀ W' B k e,Bel W W'→Nm W' B k e t→Calls Tryz.prog 65 #[.agg #[.slice A' n' c'],.agg #[.slice B k e]] W' (IntPost W' y)):=fun W' B k e hb hn=>cmp_h (h2.up hb.hid) hn hy
 have hl:longB r=(decide (0≤x) || decide (0≤y)):=by
  unfold longB
  rw [← ht,← hx,← hy]
  unfold cmpI
  congr 1
  ·by_cases g:t≤r.num.natAbs
   ·rw [decide_eq_true g,decide_eq_true]
    rw [if_neg (by omega)];split <;> omega
   ·rw [decide_eq_false g,decide_eq_false]
    rw [if_pos (by omega)];omega
  ·by_cases g:t≤r.den
   ·rw [decide_eq_true g,decide_eq_true]
    rw [if_neg (by omega)];split <;> omega
   ·rw [decide_eq_false g,decide_eq_false]
    rw [if_pos (by omega)];omega
 rw [hl]
 clear hl hx hy ht h1 h2
 have HB:=Bel.refl W
 obtain ⟨W1,hW1⟩:∃ X,X=W.alloc (.cells #[.bool b,.slice A n c,.slice A' n' c'] 51):=⟨_,rfl⟩
 have HR:At W1 W.heap.size [.bool b,.slice A n c,.slice A' n' c']:=by rw [hW1];exact at_new0 _ _ _
 have HB1:Bel W W1:=by rw [hW1];exact HB.al _
 have HW:=khide hW1
 clear hW1 HB
 have hr_1:=HR.c1;have hr_2:=HR.c2;have hr_l:=HR.lt
 cases e1:decide (0≤x)
 all_goals
  go_enter Tryz.func186,Tryz.ntmps186
  go_upto_region 1 with fail
  rw [← HW.out]
  go_wp2_with (first
   | (go_at_call 66;(with_reducible refine (CO.out _).mono ?_);rintro e w1 ⟨B,c1,rfl,n1,hbk⟩;replace HR:=HR.up hbk;replace HB1:=HB1.up hbk)
   | (go_at_call 212;(with_reducible refine (CP.out _ _ _ _ n1).mono ?_);rintro e w2 ⟨B2,c2,rfl,n2,hbk⟩;replace HR:=HR.up hbk;replace HB1:=HB1.up hbk;clear hr_1 hr_2 hr_l;have hr_1:=HR.c1;have hr_2:=HR.c2;have hr_l:=HR.lt)
   | (go_at_call 65;(with_reducible refine (CX.out _ _ _ _ (HB1.al _) (n2.al _)).mono ?_);rintro e w3 ⟨rfl,hbk⟩;have HP:=At.up (at_new0 _ _ _) hbk;replace HR:=(HR.al _).up hbk;replace HB1:=(HB1.al _).up hbk;replace n2:=(n2.al _).up hbk;clear hr_1 hr_2 hr_l;have hr_1:=HR.c1;have hr_2:=HR.c2;have hr_l:=HR.lt;have hp_0:=HP.c0;have hp_l:=HP.lt)
   | (go_at_call 65;(with_reducible refine (CY.out _ _ _ _ HB1 n2).mono ?_);rintro e w4 ⟨rfl,hbk⟩;replace HB1:=HB1.up hbk) | fail)
  go_ret
  exact ⟨by simp,HB1⟩
end Go.Proofs.YtfflmmbhpchloaaGreatDoor
end
section
open Go.RowKit
namespace Go.Proofs.YtfflmmbhpchloaaGreatDoor
theorem setRow_new (w:World) (t:TypeId) (old cells:Array Value):(w.alloc (.cells old t)).setRow w.heap.size cells=w.alloc (.cells cells t):=by
 unfold World.setRow World.alloc
 congr 1
 apply Array.ext_getElem?
 intro k
 simp only [Array.getElem?_modify,Array.getElem?_push]
 by_cases hk:k=w.heap.size
 ·subst hk;simp
 ·rw [if_neg hk,if_neg hk,if_neg (Ne.symm hk)]
theorem wpList_store_new {P:Program} {ops:Array Oper} {rest:List Oper} {o:Oper} {a:Act} {w:World} {Q:Exit→Act→World→Prop} (ty:TypeId) (cells:List Value) (x y:Operand) (old:List Value) (hgd:o.guard=none) (ho:o.op = .store ty x y)
 (hx:a.eval x = .pointer (some ⟨w.heap.size,0,none⟩)) (hy:a.eval y = .agg cells.toArray) (hi:(P.info? ty).map (·.size)=some cells.length) (hold:old.length=cells.length) (h1:cells.all (·.oneCell')=true)
 (h:wpList P ops Q rest (a.put o.dst undef) (w.alloc (.cells cells.toArray ty))):wpList P ops Q (o :: rest) a (w.alloc (.cells old.toArray ty)) :=
 wpList_store_row hgd ty x y ho w.heap.size cells.toArray hx hy ty old.toArray (heap_alloc_new w _) (by simpa using hi) (by simpa using hold) (by simpa using h1) (by rw [setRow_new];exact h)
end Go.Proofs.YtfflmmbhpchloaaGreatDoor
end
section
open Go.RowKit
open Go.Proofs.YtfflmmbhpchloaaGreatDoor.V
namespace Go.Proofs.YtfflmmbhpchloaaGreatDoor
abbrev mV (nm id:ByteArray) (ba:Int) (s1:Bool) (A1:Option Addr) (n1 c1:Nat) (A2:Option Addr) (n2 c2:Nat) (s2:Bool) (B1:Option Addr) (m1 d1:Nat) (B2:Option Addr) (m2 d2:Nat) (ho:Bool) (v:V8):Value :=
 .agg #[.string nm,.string id,.int .i64 ba,.bool s1,.slice A1 n1 c1,.slice A2 n2 c2,.bool s2,.slice B1 m1 d1,.slice B2 m2 d2,.bool ho,.int .i64 v.x0,.int .i64 v.x1,.int .i64 v.x2,.int .i64 v.x3,.int .i64 v.x4,.int .i64 v.x5,.int .i64 v.x6,.int .i64 v.x7]
section
variable {base p g y:Nat} {W W':World} {x:TPl} {T:Tb} {s:ByteArray}
theorem TabM.look (h:TabM base W p x T) (hs:s.size≤9223372036854775807):∃ nm id ba s1 A1 n1 c1 A2 n2 c2 s2 B1 m1 d1 B2 m2 d2 ho v,
 (∀ W',Turn [] W W'→(Instr.lookup 84 (.map (some x.b1)) (.string s) true).run Tryz.prog W' = .ok (.tuple #[mV nm id ba s1 A1 n1 c1 A2 n2 c2 s2 B1 m1 d1 B2 m2 d2 ho v,.bool (lookL T.ents s).isSome]) W') ∧
 (∀ W',Turn [] W W'→(Instr.lookup 84 (.map (some x.b1)) (.string s) false).run Tryz.prog W' = .ok (mV nm id ba s1 A1 n1 c1 A2 n2 c2 s2 B1 m1 d1 B2 m2 d2 ho v) W') ∧
 (∀ e,lookL T.ents s=some e→nm=s∧id=e.id∧ba=e.base∧ho=e.has∧v=e.vec∧QA W s1 A1 n1 c1 A2 n2 c2 e.fac 101∧QA W s2 B1 m1 d1 B2 m2 d2 e.off 101) ∧
 (lookL T.ents s=none→ba=0∧ho=false):=by
 obtain ⟨l,hm,hr⟩:=h.ents
 have k1:∀ W',Turn [] W W'→(Instr.lookup 84 (.map (some x.b1)) (.string s) true).run Tryz.prog W' = .ok (.tuple #[(lookL l s).getD _,.bool (lookL l s).isSome]) W':=fun W' t=>(hm.turn t List.not_mem_nil).look Tryz.underlying84 measure_zero hs
 have k2:∀ W',Turn [] W W'→(Instr.lookup 84 (.map (some x.b1)) (.string s) false).run Tryz.prog W' = .ok ((lookL l s).getD _) W':=fun W' t=>(hm.turn t List.not_mem_nil).get Tryz.underlying84 measure_zero hs
 cases hl:lookL T.ents s with
 | none =>
   rw [hr.no s hl] at k1 k2
   exact ⟨ByteArray.empty,ByteArray.empty,0,false,none,0,0,none,0,0,false,none,0,0,none,0,0,false,V8.z,k1,k2,(fun e he=>by cases he),fun _=>⟨rfl,rfl⟩⟩
 | some e =>
   obtain ⟨v,hv,b,A,n,c,A',n',c',b2,B,m,d,B',m',d',rfl,q1,q2⟩:=hr.yes s e hl
   rw [hv] at k1 k2
   exact ⟨s,e.id,e.base,b,A,n,c,A',n',c',b2,B,m,d,B',m',d',e.has,e.vec,k1,k2,(fun e' he=>by injection he with he;subst he;exact ⟨rfl,rfl,rfl,rfl,rfl,q1,q2⟩),fun he=>by cases he⟩
theorem TabM.lookA (h:TabM base W p x T) (hs:s.size≤2000000):∃ id,(∀ W',Turn [] W W'→(Instr.lookup 86 (.map (some x.b3)) (.string s) true).run Tryz.prog W' = .ok (.tuple #[.agg #[.string id],.bool (lookL T.als s).isSome]) W')∧id=(lookL T.als s).getD ⟨#[]⟩:=by
 have hm:=h.als
 have k1:∀ W',Turn [] W W'→(Instr.lookup 86 (.map (some x.b3)) (.string s) true).run Tryz.prog W' = .ok (.tuple #[(lookL (T.als.map fun a=>(a.1,Value.agg #[.string a.2])) s).getD _,.bool (lookL (T.als.map fun a=>(a.1,Value.agg #[.string a.2])) s).isSome]) W':=fun W' t=>(hm.turn t List.not_mem_nil).look Tryz.underlying86 alias_zero (Nat.le_trans hs (by decide))
 rw [lookL_map (l:=T.als) (fun a=>Value.agg #[.string a])] at k1
 cases hl:lookL T.als s with
 | none=>rw [hl] at k1;exact ⟨⟨#[]⟩,k1,rfl⟩
 | some e=>rw [hl] at k1;exact ⟨e,k1,rfl⟩
theorem TabM.lookV (h:TabM base W p x T) (hs:s.size≤2000000):∃ b A n c A' n' c',(∀ W',Turn [] W W'→(Instr.lookup 85 (.map (some x.b2)) (.string s) true).run Tryz.prog W' = .ok (.tuple #[.agg #[.bool b,.slice A n c,.slice A' n' c'],.bool (lookL T.vals s).isSome]) W') ∧
 (∀ r,lookL T.vals s=some r→QA W b A n c A' n' c' r 4)∧(lookL T.vals s=none→b=false∧A=none∧n=0∧c=0∧A'=none∧n'=0∧c'=0):=by
 obtain ⟨l,hm,hr⟩:=h.vals
 have k1:∀ W',Turn [] W W'→(Instr.lookup 85 (.map (some x.b2)) (.string s) true).run Tryz.prog W' = .ok (.tuple #[(lookL l s).getD _,.bool (lookL l s).isSome]) W':=fun W' t=>(hm.turn t List.not_mem_nil).look Tryz.underlying85 quot_zero (Nat.le_trans hs (by decide))
 cases hl:lookL T.vals s with
 | none=>rw [hr.no s hl] at k1;exact ⟨false,none,0,0,none,0,0,k1,(fun r hr=>by cases hr),fun _=>⟨rfl,rfl,rfl,rfl,rfl,rfl,rfl⟩⟩
 | some r =>
   obtain ⟨v,hv,b,A,n,c,A',n',c',rfl,q⟩:=hr.yes s r hl
   rw [hv] at k1
   exact ⟨b,A,n,c,A',n',c',k1,(fun r' he=>by injection he with he;subst he;exact q),fun he=>by cases he⟩
theorem LdM.lookF (h:LdM base W g p y x T) (hs:s.size≤2000000):∃ b A n c A' n' c',(∀ W',Turn [] W W'→(Instr.lookup 85 (.map (some y)) (.string s) false).run Tryz.prog W' = .ok (.agg #[.bool b,.slice A n c,.slice A' n' c']) W') ∧
 (∀ e,lookL T.ents s=some e→QA W b A n c A' n' c' e.full 11)∧(lookL T.ents s=none→QA W b A n c A' n' c' 0 11):=by
 obtain ⟨l,hm,hr⟩:=h.facs
 have k1:∀ W',Turn [] W W'→(Instr.lookup 85 (.map (some y)) (.string s) false).run Tryz.prog W' = .ok ((lookL l s).getD _) W':=fun W' t=>(hm.turn t List.not_mem_nil).get Tryz.underlying85 quot_zero (Nat.le_trans hs (by decide))
 cases hl:lookL T.ents s with
 | none =>
   rw [hr.no s hl] at k1
   refine ⟨false,none,0,0,none,0,0,k1,(fun r hr=>by cases hr),fun _=>⟨0,0,⟨nm_nil _ _ _,rfl⟩,nm_nil _ _ _,⟨by simp,by decide,by decide⟩⟩⟩
 | some r =>
   obtain ⟨v,hv,b,A,n,c,A',n',c',rfl,q⟩:=hr.yes s r hl
   rw [hv] at k1
   exact ⟨b,A,n,c,A',n',c',k1,(fun r' he=>by injection he with he;subst he;exact q),fun he=>by cases he⟩
def IntB (W:World) (v:Int) (e:Ending) (w':World):Prop:=e = .returned (.int .i64 v)∧Bel W w'
theorem tcheck_h (h:LdM base W g p y x T) (hs:s.size≤2000000):Calls Tryz.prog 118 #[.pointer (some ⟨g,0,none⟩),.string s] W (IntB W (T.fresh s)):=by
 obtain ⟨nb,hnb⟩:∃ b,nameB s=b:=⟨_,rfl⟩
 have CN:Hid (∀ W',Calls Tryz.prog 124 #[.string s] W' (RetB W' nb)):=fun W'=>tname_h hs hnb W'
 unfold Tb.fresh
 rw [hnb]
 have HB:=Bel.refl W
 cases nb
 ·rw [if_pos rfl]
  clear h hs hnb
  go_enter Tryz.func118,Tryz.ntmps118
  go_wp2_with (first | (go_at_call 124;(with_reducible refine (CN.out _).mono ?_);rintro e w1 ⟨rfl,hb⟩) | fail)
  go_ret
  exact ⟨rfl,hb⟩
 ·rw [if_neg (by decide)]
  obtain ⟨nm,id,ba,s1,A1,n1,c1,A2,n2,c2,s2,B1,m1,d1,B2,m2,d2,ho,v,k1,_,_,_⟩:=h.tab.look (Nat.le_trans hs (by decide))
  obtain ⟨ai,k2,_⟩:=h.tab.lookA hs
  obtain ⟨b1,hb1⟩:∃ b,(lookL T.ents s).isSome=b:=⟨_,rfl⟩
  obtain ⟨b2,hb2⟩:∃ b,(lookL T.als s).isSome=b:=⟨_,rfl⟩
  rw [hb1] at k1 ⊢
  rw [hb2] at k2 ⊢
  have K1:=khide k1
  have K2:=khide k2
  have HL:=khide h
  clear k1 k2 h hs hnb hb1 hb2
  have HV:Hid ((if b1=true ∨ b2=true then (10:Int) else 0)=if b1 then 10 else if b2 then 10 else 0):=by unfold Hid;cases b1 <;> cases b2 <;> rfl
  rw [HV.out]
  cases b1 <;> cases b2
  all_goals
   go_enter Tryz.func118,Tryz.ntmps118
   go_upto_region 3 with (first | (go_at_call 124;(with_reducible refine (CN.out _).mono ?_);rintro e w1 ⟨rfl,hb⟩) | fail)
   have HM:=khide (HL.out.up hb.hid)
   have q0:=HM.out.c0;have q2:=HM.out.tab.c2;have ql:=HM.out.lt;have qp:=HM.out.tab.lt
   have k1:=K1.out w1 (Turn.of hb.hid)
   go_upto_region 4 with (first | (refine wpList_store_new 98 [.string nm,.string id,.int .i64 ba,.bool s1,.slice A1 n1 c1,.slice A2 n2 c2,.bool s2,.slice B1 m1 d1,.slice B2 m2 d2,.bool ho,.int .i64 v.x0,.int .i64 v.x1,.int .i64 v.x2,.int .i64 v.x3,.int .i64 v.x4,.int .i64 v.x5,.int .i64 v.x6,.int .i64 v.x7] (.tmp 5) (.tmp 22) _ rfl rfl rfl rfl (by kernel_rfl) rfl rfl ?_) | fail)
   refine kwp_named ?_
   intro w2 hw2
   have hb2:Bel W w2:=by rw [hw2];exact hb.al _
   have HM2:=khide (HL.out.up hb2.hid)
   clear q0 q2 ql qp k1 HM hw2
   have q0:=HM2.out.c0;have q4:=HM2.out.tab.c4;have ql:=HM2.out.lt;have qp:=HM2.out.tab.lt
   have k2:=K2.out w2 (Turn.of hb2.hid)
   go_wp2
   go_ret
   exact ⟨rfl,hb2.al _⟩
theorem tbase_h (h:TabM base W p x T) (hs:s.size≤2000000):Calls Tryz.prog 182 #[.pointer (some ⟨p,0,none⟩),.string s] W (RetB W (T.isBase s)):=by
 obtain ⟨nm,id,ba,s1,A1,n1,c1,A2,n2,c2,s2,B1,m1,d1,B2,m2,d2,ho,v,k1,_,hk,_⟩:=h.look (Nat.le_trans hs (by decide))
 have hv:T.isBase s=((lookL T.ents s).isSome && !decide (ba = -1)):=by
  unfold Tb.isBase
  cases hl:lookL T.ents s with
  | none=>rfl
  | some e=>rw [(hk e hl).2.2.1];rfl
 rw [hv]
 obtain ⟨b1,hb1⟩:∃ b,(lookL T.ents s).isSome=b:=⟨_,rfl⟩
 obtain ⟨b2,hb2⟩:∃ b,decide (ba = -1)=b:=⟨_,rfl⟩
 have hne:(ba != -1) = !b2:=by rw [← hb2];rfl
 have hbe:(ba == -1)=b2:=by rw [← hb2];rfl
 rw [hb1] at k1 ⊢
 rw [hb2]
 have K1:=khide k1
 have HM:=khide h
 have q2:=h.c2;have qp:=h.lt
 clear k1 h hs hb1 hv hk
 have k1:=K1.out W (Turn.refl W)
 have HB:=Bel.refl W
 cases b1
 all_goals
  go_enter Tryz.func182,Tryz.ntmps182
  go_upto_region 2 with (first | (refine wpList_store_new 98 [.string nm,.string id,.int .i64 ba,.bool s1,.slice A1 n1 c1,.slice A2 n2 c2,.bool s2,.slice B1 m1 d1,.slice B2 m2 d2,.bool ho,.int .i64 v.x0,.int .i64 v.x1,.int .i64 v.x2,.int .i64 v.x3,.int .i64 v.x4,.int .i64 v.x5,.int .i64 v.x6,.int .i64 v.x7] (.tmp 5) (.tmp 14) _ rfl rfl rfl rfl (by kernel_rfl) rfl rfl ?_) | fail)
  refine kwp_named ?_
  intro w2 hw2
  have HA:At w2 W.heap.size [.string nm,.string id,.int .i64 ba,.bool s1,.slice A1 n1 c1,.slice A2 n2 c2,.bool s2,.slice B1 m1 d1,.slice B2 m2 d2,.bool ho,.int .i64 v.x0,.int .i64 v.x1,.int .i64 v.x2,.int .i64 v.x3,.int .i64 v.x4,.int .i64 v.x5,.int .i64 v.x6,.int .i64 v.x7]:=by rw [hw2];exact at_new0 _ _ _
  have hbw:Bel W w2:=by rw [hw2];exact HB.al _
  have a2:=HA.c2
  clear hw2 HA
  go_wp2
  go_ret
  exact ⟨by simp,hbw⟩
theorem Ss.set1 {W:World} {A:Option Addr} {xs:List ByteArray} {a:Addr} {v u:Value} (h:Ss W A xs) (hc:W.cell? a=some v) (hv:∀ t,v ≠ .string t):Ss (W.setCell a u) A xs:=by
 have hz:(W.setCell a u).heap.size=W.heap.size:=by simp [World.setCell]
 unfold Ss
 rw [hz]
 intro hn
 obtain ⟨ad,e,hb,hx⟩:=h.out hn
 refine ⟨ad,e,hb,fun j t hj=>?_⟩
 have h1:=hx j t hj
 exact (World.cell?_setCell_other _ _ _ _ (fun e=>by rw [e] at hc;rw [hc] at h1;injection h1 with h1;exact hv _ h1)).trans h1
theorem Ss.sets {W:World} {A:Option Addr} {xs:List ByteArray} {q:Nat} {B0 B1:Option Addr} {k0 d0 k1 d1:Nat} {u0 u1:Value} (h:Ss W A xs) (hq:At W q [.slice B0 k0 d0,.slice B1 k1 d1]):Ss ((W.setCell ⟨q,0,none⟩ u0).setCell ⟨q,1,none⟩ u1) A xs :=
 (h.set1 hq.c0 (fun t e=>by cases e)).set1 (v:=.slice B1 k1 d1) ((World.cell?_setCell_other _ _ _ _ (by intro e;injection e with _ e;cases e)).trans hq.c1) (fun t e=>by cases e)
def KnR (W:World) (T:Tb) (e:Ending) (w':World):Prop:=∃ A c B d,e = .returned (.agg #[.slice A T.ents.length c,.slice B T.vals.length d])∧Ss w' A T.names∧Ss w' B T.prefs∧Bel W w'
theorem tknown_h (h:TabM base W p x T):Calls Tryz.prog 30 #[.pointer (some ⟨p,0,none⟩)] W (KnR W T):=by
 obtain ⟨A,c,B,d,e1,e2,h1,h2⟩:=h.reads
 have q0:=h.c0;have q1:=h.c1;have qp:=h.lt
 rw [e1] at q0
 rw [e2] at q1
 obtain ⟨n,hn⟩:∃ n,n=T.ents.length:=⟨_,rfl⟩
 obtain ⟨m,hm⟩:∃ m,m=T.vals.length:=⟨_,rfl⟩
 unfold KnR
 rw [← hn,← hm]
 rw [← hn] at q0
 rw [← hm] at q1
 obtain ⟨W1,hW1⟩:∃ X,X=W.alloc (.cells #[.slice none 0 0,.slice none 0 0] 62):=⟨_,rfl⟩
 have HR:At W1 W.heap.size [.slice none 0 0,.slice none 0 0]:=by rw [hW1];exact at_new0 _ _ _
 have HB:Bel W W1:=by rw [hW1];exact (Bel.refl W).al _
 have HW:=khide hW1
 have q0':W1.cell? ⟨p,0,none⟩=some (.slice A n c):=(HB.hid.out.cell qp).trans q0
 have q1':W1.cell? ⟨p,1,none⟩=some (.slice B m d):=(HB.hid.out.cell qp).trans q1
 have hr_0:=HR.c0;have hr_1:=HR.c1;have hr_l:=HR.lt;have hr_f0:=HR.f0;have hr_f1:=HR.f1
 have qn:p ≠ W.heap.size:=by omega
 have h1':=h1.up HB.hid
 have h2':=h2.up HB.hid
 clear hW1 q0 q1 h e1 e2 h1 h2 hn hm
 go_enter Tryz.func30,Tryz.ntmps30
 go_upto_region 1 with fail
 rw [← HW.out]
 go_region
 all_goals
  go_wp2
  refine bodyPost_ret (v:=.agg #[.slice A n c,.slice B m d]) (by simp [results,Tryz.results30,go_sem,hr_0,hr_1,hr_l]) rfl ?_
  exact ⟨A,c,B,d,rfl,((h1'.dr).sets HR.dr),((h2'.dr).sets HR.dr),Below.setCell (Below.setCell HB.dr (Nat.le_refl _) _) (Nat.le_refl _) _⟩
end
def PaR (W:World) (o:Except Int PL) (e:Ending) (w':World):Prop:=match o with
 | .error v=>e = .returned (.tuple #[.agg #[.slice none 0 0,.slice none 0 0,.slice none 0 0],.int .i64 v])∧Bel W w'
 | .ok p=>∃ A1 n1 c1 A2 n2 c2 A3 n3 c3,e = .returned (.tuple #[.agg #[.slice A1 n1 c1,.slice A2 n2 c2,.slice A3 n3 c3],.int .i64 0])∧Q1 w' (.slice A1 n1 c1) (.slice A2 n2 c2) (.slice A3 n3 c3) (ofP p)∧Bel W w'
theorem unitD_codes {names ps:List ByteArray} {s:ByteArray} {v:Int} (h:unitD names ps s = .error v):v=11 ∨ v=2:=by
 unfold unitD at h
 split at h
 ·injection h with h;exact .inl h.symm
 ·split at h
  ·injection h with h;exact .inr h.symm
  ·split at h
   ·injection h with h;exact .inr h.symm
   ·split at h
    ·injection h with h;exact .inr h.symm
    ·cases h
theorem part_at {W:World} {g:Nat} {q:PL} (h:Qs W (some ⟨g,0,none⟩) ([q].map ofP)):∃ A1 n1 c1 A2 n2 c2 A3 n3 c3,W.cell? ⟨g,0,none⟩=some (.slice A1 n1 c1)∧W.cell? ⟨g,1,none⟩=some (.slice A2 n2 c2)∧W.cell? ⟨g,2,none⟩=some (.slice A3 n3 c3) ∧
 Q1 W (.slice A1 n1 c1) (.slice A2 n2 c2) (.slice A3 n3 c3) (ofP q):=by
 obtain ⟨ad,v1,v2,v3,e,hb,h1,h2,h3,h4⟩:=h.at_ (k:=0) (q:=ofP q) rfl
 injection e with e
 subst e
 rw [plain_add3] at h1 h2 h3
 obtain ⟨A1,c1,A2,c2,A3,c3,e1,e2,e3,_⟩:=h4.out
 subst e1;subst e2;subst e3
 exact ⟨_,_,_,_,_,_,_,_,_,h1,h2,h3,h4⟩
theorem Q1.put3 {W:World} {v1 v2 v3:Value} {q:QL} {p:Nat} {B0 B1 B2:Option Addr} {k0 d0 k1 d1 k2 d2:Nat} {u0 u1 u2:Value} (h:Q1 W v1 v2 v3 q) (hp:At W p [.slice B0 k0 d0,.slice B1 k1 d1,.slice B2 k2 d2]) :
 Q1 (((W.setCell ⟨p,0,none⟩ u0).setCell ⟨p,1,none⟩ u1).setCell ⟨p,2,none⟩ u2) v1 v2 v3 q :=
 ((h.setn hp.c0 u0).setn (hp.put (i:=0) (by simp) u0).c1 u1).setn ((hp.put (i:=0) (by simp) u0).put (i:=1) (by simp) u1).c2 u2
theorem Q1.pal {W:World} {v1 v2 v3:Value} {q:QL} {p:Nat} {o:Obj} {B0 B1 B2:Option Addr} {k0 d0 k1 d1 k2 d2:Nat} {u0 u1 u2:Value} (h:Q1 W v1 v2 v3 q) (hp:At W p [.slice B0 k0 d0,.slice B1 k1 d1,.slice B2 k2 d2]) :
 Q1 ((((W.setCell ⟨p,0,none⟩ u0).setCell ⟨p,1,none⟩ u1).setCell ⟨p,2,none⟩ u2).alloc o) v1 v2 v3 q:=(h.put3 hp).al o
section
variable {base p g y:Nat} {W W':World} {x:TPl} {T:Tb} {s:ByteArray}
theorem tpart_h (h:LdM base W g p y x T) (hl:T.ents.length≤1000000) (hl2:T.vals.length≤1000000):Calls Tryz.prog 130 #[.pointer (some ⟨g,0,none⟩),.string s] W (PaR W (T.part s)):=by
 have CK:Hid (∀ W',Bel W W'→Calls Tryz.prog 30 #[.pointer (some ⟨p,0,none⟩)] W' (KnR W' T)):=fun W' hb=>tknown_h (h.tab.up hb.hid)
 obtain ⟨n,hn⟩:∃ n,n=T.ents.length:=⟨_,rfl⟩
 obtain ⟨m,hm⟩:∃ m,m=T.vals.length:=⟨_,rfl⟩
 unfold KnR at CK
 rw [← hn,← hm] at CK
 obtain ⟨o,ho⟩:∃ o,unitD T.names T.prefs s=o:=⟨_,rfl⟩
 have CP:Hid (∀ W' A c B d,Ss W' A T.names→Ss W' B T.prefs→Calls Tryz.prog 29 #[.agg #[.slice A n c,.slice B m d],.string s] W' (UnitR W' o)):=fun W' A c B d h1 h2=>ho ▸ uparse_any h1 (by rw [hn];simp [Tb.names]) (by omega) h2 (by rw [hm];simp [Tb.prefs]) (by omega)
 obtain ⟨W1,hW1⟩:∃ X,X=W.alloc (.cells #[.slice none 0 0,.slice none 0 0,.slice none 0 0] 44):=⟨_,rfl⟩
 have HR:At W1 W.heap.size [.slice none 0 0,.slice none 0 0,.slice none 0 0]:=by rw [hW1];exact at_new0 _ _ _
 have HB:Bel W W1:=by rw [hW1];exact (Bel.refl W).al _
 have HM:=khide (h.up HB.hid)
 have HW:=khide hW1
 have q0:=HM.out.c0;have ql:=HM.out.lt
 have hr_0:=HR.c0;have hr_1:=HR.c1;have hr_2:=HR.c2;have hr_l:=HR.lt;have hr_f0:=HR.f0;have hr_f1:=HR.f1;have hr_f2:=HR.f2
 unfold Tb.part
 rw [ho]
 clear hW1 h hn hm hl hl2
 cases o with
 | error v =>
   have hv:=unitD_codes ho
   have d1:(v != 0)=true:=by rcases hv with rfl | rfl <;> rfl
   have HV:=khide hv
   clear ho hv
   go_enter Tryz.func130,Tryz.ntmps130
   go_upto_region 1 with fail
   rw [← HW.out]
   go_wp2_with (first
    | (go_at_call 30;(with_reducible refine (CK.out _ HB).mono ?_);rintro e w1 ⟨A,c,B,d,rfl,s1,s2,hb⟩;replace HR:=HR.up hb.hid;replace HB:=HB.up hb.hid)
    | (go_at_call 29;(with_reducible refine (CP.out _ _ _ _ _ s1 s2).mono ?_);rintro e w2 ⟨rfl,hb⟩;replace HR:=HR.up hb.hid;replace HB:=HB.up hb.hid;clear hr_0 hr_1 hr_2 hr_l hr_f0 hr_f1 hr_f2;have hr_0:=HR.c0;have hr_1:=HR.c1;have hr_2:=HR.c2;have hr_l:=HR.lt;have hr_f0:=HR.f0;have hr_f1:=HR.f1;have hr_f2:=HR.f2)
    | fail)
   refine bodyPost_ret (v:=.tuple #[.agg #[.slice none 0 0,.slice none 0 0,.slice none 0 0],.int .i64 v]) (by simp [results,Tryz.results130,go_sem,hr_0,hr_1,hr_2,hr_l]) rfl ⟨rfl,?_⟩
   first | exact below3 (HB.al _) (Nat.le_refl _) _ _ _ | exact (Bel.of (below3 HB (Nat.le_refl _) _ _ _)).al _
 | ok ps =>
   clear ho
   match ps with
   | [] =>
     go_enter Tryz.func130,Tryz.ntmps130
     go_upto_region 1 with fail
     rw [← HW.out]
     go_wp2_with (first
      | (go_at_call 30;(with_reducible refine (CK.out _ HB).mono ?_);rintro e w1 ⟨A,c,B,d,rfl,s1,s2,hb⟩;replace HR:=HR.up hb.hid;replace HB:=HB.up hb.hid)
      | (go_at_call 29;(with_reducible refine (CP.out _ _ _ _ _ s1 s2).mono ?_);rintro e w2 ⟨g1,c2,rfl,hc2,hg2,hqs,hb⟩;replace HR:=HR.up hb.hid;replace HB:=HB.up hb.hid;clear hr_0 hr_1 hr_2 hr_l hr_f0 hr_f1 hr_f2;have hr_0:=HR.c0;have hr_1:=HR.c1;have hr_2:=HR.c2;have hr_l:=HR.lt;have hr_f0:=HR.f0;have hr_f1:=HR.f1;have hr_f2:=HR.f2)
      | fail)
     refine bodyPost_ret (v:=.tuple #[.agg #[.slice none 0 0,.slice none 0 0,.slice none 0 0],.int .i64 2]) (by simp [results,Tryz.results130,go_sem,hr_0,hr_1,hr_2,hr_l]) rfl ⟨rfl,?_⟩
     first | exact below3 (HB.al _) (Nat.le_refl _) _ _ _ | exact (Bel.of (below3 HB (Nat.le_refl _) _ _ _)).al _
   | a :: b :: r =>
     have dl:((((a :: b :: r).length:Nat):Int) != 1)=true:=by rw [bne_iff_ne];simp;omega
     obtain ⟨k,hk⟩:∃ k,(a :: b :: r).length=k:=⟨_,rfl⟩
     rw [hk] at dl
     unfold UnitR at CP
     simp only [hk] at CP
     clear hk
     go_enter Tryz.func130,Tryz.ntmps130
     go_upto_region 1 with fail
     rw [← HW.out]
     go_wp2_with (first
      | (go_at_call 30;(with_reducible refine (CK.out _ HB).mono ?_);rintro e w1 ⟨A,c,B,d,rfl,s1,s2,hb⟩;replace HR:=HR.up hb.hid;replace HB:=HB.up hb.hid)
      | (go_at_call 29;(with_reducible refine (CP.out _ _ _ _ _ s1 s2).mono ?_);rintro e w2 ⟨g1,c2,rfl,hc2,hg2,hqs,hb⟩;replace HR:=HR.up hb.hid;replace HB:=HB.up hb.hid;clear hr_0 hr_1 hr_2 hr_l hr_f0 hr_f1 hr_f2;have hr_0:=HR.c0;have hr_1:=HR.c1;have hr_2:=HR.c2;have hr_l:=HR.lt;have hr_f0:=HR.f0;have hr_f1:=HR.f1;have hr_f2:=HR.f2)
      | fail)
     refine bodyPost_ret (v:=.tuple #[.agg #[.slice none 0 0,.slice none 0 0,.slice none 0 0],.int .i64 2]) (by simp [results,Tryz.results130,go_sem,hr_0,hr_1,hr_2,hr_l]) rfl ⟨rfl,?_⟩
     first | exact below3 (HB.al _) (Nat.le_refl _) _ _ _ | exact (Bel.of (below3 HB (Nat.le_refl _) _ _ _)).al _
   | [q] =>
     go_enter Tryz.func130,Tryz.ntmps130
     go_upto_region 1 with fail
     rw [← HW.out]
     go_wp2_with (first
      | (go_at_call 30;(with_reducible refine (CK.out _ HB).mono ?_);rintro e w1 ⟨A,c,B,d,rfl,s1,s2,hb⟩;replace HR:=HR.up hb.hid;replace HB:=HB.up hb.hid)
      | (go_at_call 29;(with_reducible refine (CP.out _ _ _ _ _ s1 s2).mono ?_);rintro e w2 ⟨g1,c2,rfl,hc2,hg2,hqs,hb⟩;replace HR:=HR.up hb.hid;replace HB:=HB.up hb.hid;clear hr_0 hr_1 hr_2 hr_l hr_f0 hr_f1 hr_f2;have hr_0:=HR.c0;have hr_1:=HR.c1;have hr_2:=HR.c2;have hr_l:=HR.lt;have hr_f0:=HR.f0;have hr_f1:=HR.f1;have hr_f2:=HR.f2;obtain ⟨A1,n1,k1,A2,n2,k2,A3,n3,k3,e0,e1,e2,hq⟩:=part_at hqs;have hgl:=World.block_lt_of_cell? _ _ e0;have HQ:=khide hq;clear hqs hq)
      | fail)
     refine bodyPost_ret (v:=.tuple #[.agg #[.slice A1 n1 k1,.slice A2 n2 k2,.slice A3 n3 k3],.int .i64 0]) (by simp [results,Tryz.results130,go_sem,hr_0,hr_1,hr_2,hr_l]) rfl ?_
     refine ⟨A1,n1,k1,A2,n2,k2,A3,n3,k3,rfl,?_,?_⟩
     ·first | exact HQ.out.alp HR | exact (HQ.out.pal HR)
     ·first | exact below3 (HB.al _) (Nat.le_refl _) _ _ _ | exact (Bel.of (below3 HB (Nat.le_refl _) _ _ _)).al _
end
end Go.Proofs.YtfflmmbhpchloaaGreatDoor
end
