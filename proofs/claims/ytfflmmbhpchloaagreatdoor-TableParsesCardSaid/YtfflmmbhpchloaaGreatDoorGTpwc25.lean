/- Each theorem here says its own conditions. -/
import Derived.Test.YtfflmmbhpchloaaGreatDoorGTpwc21
set_option maxRecDepth 100000
set_option maxHeartbeats 16000000
section
open Go.RowKit
open Go.Proofs.YtfflmmbhpchloaaGreatDoor.V
namespace Go.Proofs.YtfflmmbhpchloaaGreatDoor
theorem plain_addT0 (g k:Nat):(⟨g,0,none⟩:Addr).add k=⟨g,k,none⟩:=by unfold Addr.add;split <;> simp_all
theorem strP (s:ByteArray) (w:World):w.heap.size < (w.alloc (.cells #[.string s] 9)).heap.size:=by simp
theorem tname_h {s:ByteArray} {r:Bool} (hs:s.size≤2000000) (hr:nameB s=r) (w:World):Calls Tryz.prog 124 #[.string s] w (RetB w r):=by
 obtain ⟨W1,hW1⟩:∃ X,X=w.alloc (.cells #[.string s] 9):=⟨_,rfl⟩
 have HS:Ss W1 (some ⟨w.heap.size,0,none⟩) [s]:=by
  rw [hW1]
  refine fun _=>⟨_,rfl,strP s w,fun j u hj=>?_⟩
  match j,hj with
  | 0,hj=>injection hj with hj;rw [plain_addT0,← hj];exact (at_new0 w [.string s] _).c0
 have HB:Bel w W1:=by rw [hW1];exact (Bel.refl w).al _
 have CG:Hid (Calls Tryz.prog 176 #[.agg #[.slice (some ⟨w.heap.size,0,none⟩) 1 1,.slice none 0 0]] W1 (RetB W1 r)):=by
  have h1:=good_any (n:=1) (c:=1) (m:=0) (d:=0) (B:=none) (ys:=[]) HS rfl (by omega) (fun x hx=>by rw [List.mem_singleton.1 hx];exact hs) (fun h=>absurd h (by simp)) rfl (by omega) (fun x hx=>by cases hx)
  rw [show (goodL [s] && goodL [])=r by rw [goodL_nil,Bool.and_true];exact hr] at h1
  exact h1
 have HW:=khide hW1
 clear hW1 hr hs HS
 go_enter Tryz.func124,Tryz.ntmps124
 go_wp2_with (first | (go_at_call 176;rw [← HW.out];(with_reducible refine (CG.out).mono ?_);rintro e w1 ⟨rfl,hb⟩) | fail)
 go_ret
 exact ⟨rfl,HB.up hb.hid⟩
theorem tquan_h {s:ByteArray} {r:Bool} (hr:quanB s=r) (w:World):Calls Tryz.prog 119 #[.string s] w (RetB w r):=by
 subst hr
 unfold quanB
 by_cases h1:256 < s.size
 ·rw [decide_eq_false (by omega:¬ s.size≤256)]
  have CS:Hid (∀ W,Calls Tryz.prog 28 #[.string s] W (SplitNo W 11)):=fun W=>wsplit_long h1 W
  clear h1
  go_enter Tryz.func119,Tryz.ntmps119
  go_wp2_with (first | (go_at_call 28;(with_reducible refine (CS.out _).mono ?_);rintro e w1 ⟨rfl,hb⟩) | fail)
  go_ret
  exact ⟨rfl,hb⟩
 ·rw [decide_eq_true (by omega:s.size≤256),Bool.true_and]
  cases h2:goodAll (pcs s)
  ·have CS:Hid (∀ W,Calls Tryz.prog 28 #[.string s] W (SplitNo W 2)):=fun W=>by have h3:=wsplit_any (s:=s) (by omega) W;rwa [h2] at h3
   clear h1 h2
   go_enter Tryz.func119,Tryz.ntmps119
   go_wp2_with (first | (go_at_call 28;(with_reducible refine (CS.out _).mono ?_);rintro e w1 ⟨rfl,hb⟩) | fail)
   go_ret
   exact ⟨rfl,hb⟩
  ·have CS:Hid (∀ W,Calls Tryz.prog 28 #[.string s] W (SplitOk W (pcs s))):=fun W=>by have h3:=wsplit_any (s:=s) (by omega) W;rwa [h2] at h3
   clear h1 h2
   go_enter Tryz.func119,Tryz.ntmps119
   go_wp2_with (first | (go_at_call 28;(with_reducible refine (CS.out _).mono ?_);rintro e w1 ⟨ad,c,rfl,hc,hss,hb⟩) | fail)
   go_ret
   exact ⟨rfl,hb⟩
def OptR (W:World) (o:Option Int) (e:Ending) (w':World):Prop:=match o with
 | some v=>e = .returned (.tuple #[.int .i64 v,.bool true])∧Bel W w'
 | none=>e = .returned (.tuple #[.int .i64 0,.bool false])∧Bel W w'
theorem troot_h {s:ByteArray} (w:World):Calls Tryz.prog 125 #[.string s] w (OptR w (rootD s)):=by
 unfold rootD
 by_cases h1:s=⟨#[50]⟩
 ·rw [if_pos h1]
  subst h1
  go_enter Tryz.func125,Tryz.ntmps125
  go_wp2
  go_ret2
  exact ⟨rfl,Bel.refl _⟩
 ·rw [if_neg h1]
  have n1:(s.toList == [50])=false:=str_lit h1 rfl
  by_cases h2:s=⟨#[49,48]⟩
  ·rw [if_pos h2]
   subst h2
   go_enter Tryz.func125,Tryz.ntmps125
   go_wp2
   go_ret2
   exact ⟨rfl,Bel.refl _⟩
  ·rw [if_neg h2]
   have n2:(s.toList == [49,48])=false:=str_lit h2 rfl
   clear h1 h2
   go_enter Tryz.func125,Tryz.ntmps125
   go_wp2
   go_ret2
   exact ⟨rfl,Bel.refl _⟩
theorem exp_texts:∀ k:Nat,k < 61→atoiD ⟨(Lib.itoa ((k:Int) - 30)).toArray⟩=some ((k:Int) - 30):=by decide +kernel
theorem exp_at {s:ByteArray} {k:Nat} (hk:k < 61) (h:Lib.itoa ((k:Int) - 30)=s.data.toList):atoiD s=some ((k:Int) - 30):=by
 have e:s=⟨(Lib.itoa ((k:Int) - 30)).toArray⟩:=by rw [h]
 rw [e];exact exp_texts k hk
theorem expD_none {s:ByteArray} (h:∀ k:Nat,k < 61→Lib.itoa ((k:Int) - 30) ≠ s.data.toList):expD s=none:=by
 unfold expD
 rw [List.find?_eq_none.2 (fun k hk=>by simpa using h k (List.mem_range.1 hk))];rfl
theorem expD_some {s:ByteArray} {v:Int} (h1:-30≤v) (h2:v≤30) (h:Lib.itoa v=s.data.toList):expD s=some v:=by
 obtain ⟨k,hk,rfl⟩:∃ k:Nat,k < 61∧v=(k:Int) - 30:=⟨(v + 30).toNat,by omega,by omega⟩
 unfold expD
 cases hf:(List.range 61).find? (fun k:Nat=>decide (Lib.itoa ((k:Int) - 30)=s.data.toList)) with
 | none =>
   have:=List.find?_eq_none.1 hf k (List.mem_range.2 hk)
   simp [h] at this
 | some j =>
   have h3:=List.find?_some hf
   have h4:=List.mem_range.1 (List.mem_of_find?_eq_some hf)
   have h5:=exp_at h4 (of_decide_eq_true h3)
   rw [exp_at hk h] at h5
   injection h5 with h5
   show some ((j:Int) - 30)=_
   rw [h5]
theorem atoiD_in {s:ByteArray} {v:Int} (h:atoiD s=some v):-9223372036854775808≤v∧v≤9223372036854775807:=by
 unfold atoiD at h
 split at h
 ·rename_i u hu
  injection h with h
  subst h
  unfold Lib.atoiAll at hu
  split at hu
  ·cases hu
  ·dsimp only at hu
   split at hu
   ·cases hu
   ·cases hu
   ·split at hu
    ·cases hu
    ·split at hu
     ·cases hu
     ·injection hu with hu
      split at hu <;> omega
 ·cases h
theorem texp_h {s:ByteArray} {w:World} (hs:s.size≤281474976710656) (ht:Tabs w):Calls Tryz.prog 126 #[.string s] w (OptR w (expD s)):=by
 have CA:Hid (∀ W,Bel w W→Calls Tryz.prog 177 #[.string s] W (AtoiR W (atoiD s))):=fun W hb=>atoi_t hs (ht.up hb.hid)
 cases ho:atoiD s with
 | none =>
   have HE:Hid (expD s=none):=expD_none fun k hk h=>by rw [exp_at hk h] at ho;cases ho
   rw [HE.out]
   rw [ho] at CA
   clear hs ho ht
   have HB:=Bel.refl w
   go_enter Tryz.func126,Tryz.ntmps126
   go_wp2_with (first | (go_at_call 177;(with_reducible refine (CA.out _ HB).mono ?_);rintro e w1 ⟨v,te,pe,rfl,hb⟩) | fail)
   go_ret2
   exact ⟨rfl,hb⟩
 | some v =>
   rw [ho] at CA
   have hv:=atoiD_in ho
   have CI:Hid (∀ W,Bel w W→Calls Tryz.prog 178 #[.int .i64 v] W fun e w'=>e = .returned (.string ⟨(Lib.itoa v).toArray⟩)∧Bel W w'):=fun W hb=>itoa_t hv.1 hv.2 (ht.up hb.hid)
   obtain ⟨t,htt⟩:∃ t:ByteArray,t=⟨(Lib.itoa v).toArray⟩:=⟨_,rfl⟩
   rw [← htt] at CI
   have HS:Hid (Bel w w):=Bel.refl w
   by_cases he:t=s
   ·have h0:Lib.itoa v=s.data.toList:=by rw [← he,htt]
    have e1:(t.toList == s.toList)=true:=by rw [he];simp
    have e2:(t.toList != s.toList)=false:=by rw [bne,e1];rfl
    clear htt
    by_cases h1:v < -30
    ·have HE:Hid (expD s=none):=expD_none fun k hk h=>by
      rw [exp_at hk h] at ho;injection ho with ho;omega
     rw [HE.out]
     have d1:decide (v < -30)=true:=decide_eq_true h1
     clear h1 ho ht hv h0 he
     have HB:=Bel.refl w
     go_enter Tryz.func126,Tryz.ntmps126
     go_wp2_with (first | (go_at_call 177;(with_reducible refine (CA.out _ HB).mono ?_);rintro e w1 ⟨rfl,hb⟩;replace HB:=HB.up hb.hid) | (go_at_call 178;(with_reducible refine (CI.out _ HB).mono ?_);rintro e w2 ⟨rfl,hb2⟩;replace HB:=HB.up hb2.hid) | fail)
     go_ret2
     exact ⟨rfl,HB⟩
    ·have d1:decide (v < -30)=false:=decide_eq_false h1
     by_cases h2:30 < v
     ·have HE:Hid (expD s=none):=expD_none fun k hk h=>by
       rw [exp_at hk h] at ho;injection ho with ho;omega
      rw [HE.out]
      have d2:decide (30 < v)=true:=decide_eq_true h2
      clear h1 h2 ho ht hv h0 he
      have HB:=Bel.refl w
      go_enter Tryz.func126,Tryz.ntmps126
      go_wp2_with (first | (go_at_call 177;(with_reducible refine (CA.out _ HB).mono ?_);rintro e w1 ⟨rfl,hb⟩;replace HB:=HB.up hb.hid) | (go_at_call 178;(with_reducible refine (CI.out _ HB).mono ?_);rintro e w2 ⟨rfl,hb2⟩;replace HB:=HB.up hb2.hid) | fail)
      go_ret2
      exact ⟨rfl,HB⟩
     ·have HE:Hid (expD s=some v):=expD_some (by omega) (by omega) h0
      rw [HE.out]
      have d2:decide (30 < v)=false:=decide_eq_false h2
      clear h1 h2 ho ht hv h0 he
      have HB:=Bel.refl w
      go_enter Tryz.func126,Tryz.ntmps126
      go_wp2_with (first | (go_at_call 177;(with_reducible refine (CA.out _ HB).mono ?_);rintro e w1 ⟨rfl,hb⟩;replace HB:=HB.up hb.hid) | (go_at_call 178;(with_reducible refine (CI.out _ HB).mono ?_);rintro e w2 ⟨rfl,hb2⟩;replace HB:=HB.up hb2.hid) | fail)
      go_ret2
      exact ⟨rfl,HB⟩
   ·have e1:(t.toList == s.toList)=false:=str_ne he
    have e2:(t.toList != s.toList)=true:=by rw [bne,e1];rfl
    have HE:Hid (expD s=none):=expD_none fun k hk h=>by
     have h3:=exp_at hk h
     rw [h3] at ho
     injection ho with ho
     rw [← ho] at htt
     exact he (by rw [htt,h])
    rw [HE.out]
    clear ho ht hv htt he
    have HB:=Bel.refl w
    go_enter Tryz.func126,Tryz.ntmps126
    go_wp2_with (first | (go_at_call 177;(with_reducible refine (CA.out _ HB).mono ?_);rintro e w1 ⟨rfl,hb⟩;replace HB:=HB.up hb.hid) | (go_at_call 178;(with_reducible refine (CI.out _ HB).mono ?_);rintro e w2 ⟨rfl,hb2⟩;replace HB:=HB.up hb2.hid) | fail)
    go_ret2
    exact ⟨rfl,HB⟩
def kindsB:List ByteArray:=[baseK,prefixK,unitK,quantityK,aliasK]
theorem tkind_h {s:ByteArray} (w:World):Calls Tryz.prog 90 #[.string s] w (RetB w (kindB s)):=by
 by_cases h1:s ∈ kindsB
 ·have hk:kindB s=true:=by
   simp [kindsB] at h1
   rcases h1 with rfl | rfl | rfl | rfl | rfl <;> decide +kernel
  rw [hk]
  simp [kindsB] at h1
  clear hk
  rcases h1 with rfl | rfl | rfl | rfl | rfl
  all_goals
   (first | unfold baseK | unfold prefixK | unfold unitK | unfold quantityK | unfold aliasK)
   go_enter Tryz.func90,Tryz.ntmps90
   go_wp2
   go_ret
   exact ⟨rfl,Bel.refl _⟩
 ·simp only [kindsB,List.mem_cons,List.not_mem_nil,or_false,not_or] at h1
  obtain ⟨h1,h2,h3,h4,h5⟩:=h1
  have hk:kindB s=false:=by unfold kindB;rw [decide_eq_false h1,decide_eq_false h2,decide_eq_false h3,decide_eq_false h4,decide_eq_false h5];rfl
  rw [hk]
  have n1:(s.toList == [98,97,115,101])=false:=str_lit h1 rfl
  have n2:(s.toList == [112,114,101,102,105,120])=false:=str_lit h2 rfl
  have n3:(s.toList == [117,110,105,116])=false:=str_lit h3 rfl
  have n4:(s.toList == [113,117,97,110,116,105,116,121])=false:=str_lit h4 rfl
  have n5:(s.toList == [97,108,105,97,115])=false:=str_lit h5 rfl
  clear h1 h2 h3 h4 h5 hk
  go_enter Tryz.func90,Tryz.ntmps90
  go_wp2
  go_ret
  exact ⟨rfl,Bel.refl _⟩
end Go.Proofs.YtfflmmbhpchloaaGreatDoor
end
section
open Go.RowKit
namespace Go.Proofs.YtfflmmbhpchloaaGreatDoor

structure ZDv (W W0:World) (b:Bool) (A:Option Addr) (n c:Nat) (b':Bool) (A':Option Addr) (n' c':Nat):Prop where
 x:Zcell W0 W.heap.size b A n c
 y:Zcell W0 (W.heap.size + 1) b' A' n' c'
 r:Zcell W0 (W.heap.size + 1 + 1) false none 0 0
 s:Zcell W0 (W.heap.size + 1 + 1 + 1) false none 0 0
 bl:Below W.heap.size W W0
section
variable {W:World} {b b':Bool} {A A':Option Addr} {n n' c c':Nat} {z z':Int}
variable {q r:Int}
end
section
variable {W:World} {b b':Bool} {A A':Option Addr} {n n' c c':Nat} {z z' q r:Int}
end
section
variable {W:World} {b b':Bool} {A A':Option Addr} {n n' c c':Nat} {z z' q r:Int}
end
section
variable {W:World} {b b':Bool} {A A':Option Addr} {n n' c c' m m':Nat} {z z':Int} {r:Rat} {K:Nat}
theorem int_h {k:Int} (h1:-9223372036854775808≤k) (h2:k≤9223372036854775807):Calls Tryz.prog 123 #[.int .i64 k] W (QR W (k:Rat)):=by
 have CO:Hid (∀ W',Calls Tryz.prog 175 #[.int .i64 k] W' (ZR W' k)):=fun W'=>zof_h h1 h2
 have C1:Hid (∀ W',Calls Tryz.prog 66 #[.int .u64 1] W' (NumR W' 1)):=fun W'=>of_h (v:=1) (by omega)
 have HB:=Bel.refl W
 go_enter Tryz.func123,Tryz.ntmps123
 go_wp2_with (first | (go_at_call 175;(with_reducible refine (CO.out _).mono ?_);rintro e w1 ⟨B,e1,rfl,nz,hbk⟩;have HR:=At.up (at_new0 _ _ _) hbk;replace HB:=(HB.al _).up hbk) | (go_at_call 66;(with_reducible refine (C1.out _).mono ?_);rintro e w2 ⟨B',e2,rfl,nd,hbk⟩;replace HB:=HB.up hbk;replace HR:=HR.up hbk;replace nz:=nz.up hbk;have hr_0:=HR.c0;have hr_1:=HR.c1;have hr_2:=HR.c2;have hr_l:=HR.lt;have hr_f0:=HR.f0;have hr_f1:=HR.f1;have hr_f2:=HR.f2) | fail)
 refine bodyPost_ret (v:=.agg #[.bool (decide (k < 0)),.slice B (dl k.natAbs) e1,.slice B' (dl 1) e2]) (by simp [results,Tryz.results123,go_sem,hr_0,hr_1,hr_2]) rfl ?_
 exact ⟨B,e1,B',e2,rfl,zr_of (nz.1.put3 HR now3),nd.put3 HR now3,below3 HB (Nat.le_refl _) _ _ _⟩
end
section
variable {W:World} {b b' s s':Bool} {A A' B B':Option Addr} {n n' c c' m m' k k' e e':Nat} {z z':Int} {r r':Rat} {K L d d':Nat}
end
section
variable {W:World} {b b':Bool} {A A':Option Addr} {n n' c c' m m':Nat} {z z':Int} {r:Rat} {K:Nat}
theorem rtext_h (h:QA W b A n c A' n' c' r K) (hK:0 < K) (hK2:K≤9000):Calls Tryz.prog 18 #[.agg #[.bool b,.slice A n c,.slice A' n' c']] W (TxR W (decQ r)):=by
 have HL1:Hid ((decZ r.num).length≤90002):=Nat.le_trans (decZ_bd (qa_bd h hK).1) (by omega)
 have HL2:Hid ((decL r.den).length≤90001):=Nat.le_trans (dec_bd (qa_bd h hK).2) (by omega)
 have CT:Hid (∀ W',Bel W W'→Calls Tryz.prog 40 #[.agg #[.bool b,.slice A n c,.slice A' n' c']] W' (TermsR W' r K)):=fun W' hb=>terms_h (h.up hb) hK
 have CL:Hid (∀ W' s B k e B' k' e' z d,ZA W' s B k e z→Nm W' B' k' e' d→Hid (TT z d r K)→Calls Tryz.prog 39 #[.agg #[.bool s,.slice B k e],.agg #[.slice B' k' e']] W' (QR W' r)):=fun W' s B k e B' k' e' z d hz hd ht=>lowest_t hz hd ht.out (by omega) (by omega)
 have CO:Hid (∀ W' B k e,Nm W' B k e r.den→Calls Tryz.prog 41 #[.agg #[.slice B k e]] W' (RetB W' (decide (r.den=1)))):=fun W' B k e hn=>rone_h hn
 have CZ:Hid (∀ W' s B k e,ZA W' s B k e r.num→Calls Tryz.prog 42 #[.agg #[.bool s,.slice B k e]] W' (TxR W' (decZ r.num))):=fun W' s B k e hz=>ztext_h hz
 have CN:Hid (∀ W' B k e,Nm W' B k e r.den→Calls Tryz.prog 43 #[.agg #[.slice B k e]] W' (TxR W' (decL r.den))):=fun W' B k e hz=>text_h hz
 clear h
 obtain ⟨sg,hsg⟩:∃ s,s=decide (r.num < 0):=⟨_,rfl⟩
 have HSG:=hide hsg
 clear hsg
 have CL2:Hid (∀ W' s B k e B' k' e' z d,ZA W' s B k e z→Nm W' B' k' e' d→Hid (TT z d r K)→Calls Tryz.prog 39 #[.agg #[.bool s,.slice B k e],.agg #[.slice B' k' e']] W' (QRs W' sg r)):=fun W' s B k e B' k' e' z d hz hd ht=>by rw [HSG.out];exact CL.out _ _ _ _ _ _ _ _ _ _ hz hd ht
 have HB:=Bel.refl W
 by_cases h1:r.den=1
 ·rw [decide_eq_true h1] at CO
  have HD:Hid (decQ r=decZ r.num):=if_pos h1
  clear h1 CL
  go_enter Tryz.func18,Tryz.ntmps18
  go_wp2_with (first | (go_at_call 40;(with_reducible refine (CT.out _ (HB.al _)).mono ?_);rintro e w1 ⟨ps,pA,pn,pc,pB,pm,pe,pz,pd,rfl,pzz,pnn,ph,hbk⟩;have HX:=At.up (at_new0 _ _ _) hbk;replace HB:=(HB.al _).up hbk;replace ph:Hid (TT pz pd r K):=ph) | (go_at_call 39;(with_reducible refine (CL2.out _ _ _ _ _ _ _ _ _ _ pzz pnn ph).mono ?_);rintro e w2 ⟨B,e1,B',e2,rfl,nz,nd,hbk⟩;replace HB:=HB.up hbk) | (go_at_call 41;(with_reducible refine (CO.out _ _ _ _ (nd.al _)).mono ?_);rintro e w3 ⟨rfl,hbk⟩;have HQ:=At.up (at_new0 _ _ _) hbk;replace HB:=(HB.al _).up hbk;replace nz:=(nz.al _).up hbk;replace nd:=(nd.al _).up hbk;have hq_0:=HQ.c0;have hq_1:=HQ.c1;have hq_2:=HQ.c2;have hq_l:=HQ.lt) | (go_at_call 42;(with_reducible refine (CZ.out _ _ _ _ _ nz).mono ?_);rintro e w4 ⟨t,rfl,ht,hbk⟩;replace HB:=HB.up hbk) | fail)
  go_ret
  exact ⟨t,rfl,by unfold Hid;rw [HD.out];exact ht.out,HB⟩
 ·rw [decide_eq_false h1] at CO
  have HD:Hid (decQ r=decZ r.num ++ (47 :: decL r.den)):=if_neg h1
  clear h1 CL
  go_enter Tryz.func18,Tryz.ntmps18
  go_wp2_with (first | (go_at_call 40;(with_reducible refine (CT.out _ (HB.al _)).mono ?_);rintro e w1 ⟨ps,pA,pn,pc,pB,pm,pe,pz,pd,rfl,pzz,pnn,ph,hbk⟩;have HX:=At.up (at_new0 _ _ _) hbk;replace HB:=(HB.al _).up hbk;replace ph:Hid (TT pz pd r K):=ph) | (go_at_call 39;(with_reducible refine (CL2.out _ _ _ _ _ _ _ _ _ _ pzz pnn ph).mono ?_);rintro e w2 ⟨B,e1,B',e2,rfl,nz,nd,hbk⟩;replace HB:=HB.up hbk) | (go_at_call 41;(with_reducible refine (CO.out _ _ _ _ (nd.al _)).mono ?_);rintro e w3 ⟨rfl,hbk⟩;have HQ:=At.up (at_new0 _ _ _) hbk;replace HB:=(HB.al _).up hbk;replace nz:=(nz.al _).up hbk;replace nd:=(nd.al _).up hbk;have hq_0:=HQ.c0;have hq_1:=HQ.c1;have hq_2:=HQ.c2;have hq_l:=HQ.lt) | fail)
  go_region_held3 (fun w'=>w'.cell? ⟨w2.heap.size,0,none⟩=some (.bool sg)∧w'.cell? ⟨w2.heap.size,1,none⟩=some (.slice B (dl r.num.natAbs) e1)∧w'.cell? ⟨w2.heap.size,2,none⟩=some (.slice B' (dl r.den) e2))
  (first | exact ⟨HQ.dr.c0,HQ.dr.c1,HQ.dr.c2⟩ | exact ⟨HQ.c0,HQ.c1,HQ.c2⟩)
  (first | (go_at_call 42;(with_reducible refine (CZ.out _ _ _ _ _ nz.dr).mono ?_);rintro e w4 ⟨t,rfl,ht,hbk⟩;replace HB:=HB.dr.up hbk;replace HQ:=HQ.dr.up hbk;replace nd:=nd.dr.up hbk;have hts:t.size≤90002:=(by rw [size_list,ht.out];exact HL1.out);have hc1:¬ 9223372036854775807 < t.size + 1:=(by omega);have hc2:t.size + 1≤9223372036854775807:=(by omega)) | (go_at_call 43;(with_reducible refine (CN.out _ _ _ _ nd).mono ?_);rintro e w5 ⟨t2,rfl,ht2,hbk⟩;replace HB:=HB.up hbk;replace HQ:=HQ.up hbk;have hts2:t2.size≤90001:=(by rw [size_list,ht2.out];exact HL2.out);have hd1:¬ 9223372036854775807 < t.size + 1 + t2.size:=(by omega);have hd2:t.size + 1 + t2.size≤9223372036854775807:=(by omega)) | fail)
  go_wp2
  go_ret
  refine ⟨_,rfl,?_,HB⟩
  unfold Hid
  rw [HD.out,← ht.out,← ht2.out]
  simp
theorem rparse_frac {s t u:ByteArray} {v:Int} {d:Nat} (hs:s.size≤99999) (h:s.data.toList=t.data.toList ++ 47 :: u.data.toList) (ht:¬ (47:UInt8) ∈ t.data.toList) (hz:∀ W',Calls Tryz.prog 214 #[.string t] W' (ZPR W' v)) (hd:digB u.data.toList=true) (hv:numL u.data.toList=d) (h0:0 < d) (bv:dl v.natAbs≤99999) (bd:dl d≤99999) (hr:mkRat v d=r) :
 Calls Tryz.prog 181 #[.string s] W (OfYes W r):=by
 have CC:=hide (fun W'=>slash_hit (s:=s) (t:=t) (u:=u) W' (by omega) h ht)
 have CZ:=hide hz
 have CN:Hid (∀ W',Calls Tryz.prog 142 #[.string u] W' (NPR W' d)):=fun W'=>npar_h (by have h1:=congrArg List.length h;rw [← size_list,List.length_append,List.length_cons,← size_list,← size_list] at h1;omega) hd hv (by omega)
 have CF:Hid (∀ W' s B k e B' k' e',ZA W' s B k e v→Nm W' B' k' e' d→Calls Tryz.prog 211 #[.agg #[.bool s,.slice B k e],.agg #[.slice B' k' e']] W' (OfYes W' r)):=fun W' s B k e B' k' e' h1 h2=>of_yes h1 h2 h0 hr bv bd
 clear hs h ht hz hd hv h0 bv bd hr
 obtain ⟨sg,hsg⟩:∃ s,s=decide (r.num < 0):=⟨_,rfl⟩
 have HSG:=hide hsg
 clear hsg
 have CF2:Hid (∀ W' s B k e B' k' e',ZA W' s B k e v→Nm W' B' k' e' d→Calls Tryz.prog 211 #[.agg #[.bool s,.slice B k e],.agg #[.slice B' k' e']] W' (OfYs W' sg r)):=fun W' s B k e B' k' e' h1 h2=>by rw [HSG.out];exact CF.out _ _ _ _ _ _ _ _ h1 h2
 have HB:=Bel.refl W
 go_enter Tryz.func181,Tryz.ntmps181
 go_wp2_with (first | (go_at_call 213;(with_reducible refine (CC.out _).mono ?_);rintro e w1 ⟨rfl,hbk⟩;have HR:=At.up (at_new0 _ _ _) hbk;replace HB:=(HB.al _).up hbk) | (go_at_call 214;(with_reducible refine (CZ.out _).mono ?_);rintro e w2 ⟨pA,pc,rfl,pz,hbk⟩;replace HB:=HB.up hbk;replace HR:=HR.up hbk) | (go_at_call 142;(with_reducible refine (CN.out _).mono ?_);rintro e w3 ⟨nA,nc,rfl,nn,hbk⟩;have HP:=At.up (at_new0 _ _ _) hbk;replace HB:=(HB.al _).up hbk;replace HR:=(HR.al _).up hbk;replace pz:=(pz.al _).up hbk;have hp_0:=HP.c0;have hp_1:=HP.c1;have hp_l:=HP.lt) | (go_at_call 211;(with_reducible refine (CF2.out _ _ _ _ _ _ _ _ (pz.al _) (nn.al _)).mono ?_);rintro e w4 ⟨B,e1,B',e2,rfl,nz,nd,hbk⟩;replace HB:=(HB.al _).up hbk;replace HR:=(HR.al _).up hbk;clear hp_0 hp_1 hp_l;have hr_0:=HR.c0;have hr_1:=HR.c1;have hr_2:=HR.c2;have hr_l:=HR.lt;have hr_f0:=HR.f0;have hr_f1:=HR.f1;have hr_f2:=HR.f2) | fail)
 refine bodyPost_ret (v:=.tuple #[.agg #[.bool sg,.slice B (dl r.num.natAbs) e1,.slice B' (dl r.den) e2],.bool true]) (by simp [results,Tryz.results181,go_sem,hr_0,hr_1,hr_2]) rfl ?_
 refine ⟨B,e1,B',e2,by rw [HSG.out],zr_of (nz.1.put3 HR now3),nd.put3 HR now3,below3 HB (Nat.le_refl _) _ _ _⟩
theorem rparse_int {s:ByteArray} {v:Int} (hs:s.size≤99999) (ht:¬ (47:UInt8) ∈ s.data.toList) (hz:∀ W',Calls Tryz.prog 214 #[.string s] W' (ZPR W' v)) (bv:dl v.natAbs≤99999) (hr:mkRat v 1=r) :
 Calls Tryz.prog 181 #[.string s] W (OfYes W r):=by
 have CC:=hide (fun W'=>slash_miss (s:=s) W' (by omega) ht)
 have CZ:=hide hz
 have C1:Hid (∀ W',Calls Tryz.prog 66 #[.int .u64 1] W' (NumR W' 1)):=fun W'=>of_h (v:=1) (by omega)
 have CF:Hid (∀ W' s B k e B' k' e',ZA W' s B k e v→Nm W' B' k' e' 1→Calls Tryz.prog 211 #[.agg #[.bool s,.slice B k e],.agg #[.slice B' k' e']] W' (OfYes W' r)):=fun W' s B k e B' k' e' h1 h2=>of_yes h1 h2 (by decide) hr bv (by rw [dl_one];decide)
 clear hs ht hz bv hr
 obtain ⟨sg,hsg⟩:∃ s,s=decide (r.num < 0):=⟨_,rfl⟩
 obtain ⟨sv,hsv⟩:∃ s,s=decide (v < 0):=⟨_,rfl⟩
 have HSG:=hide hsg
 have CZ2:Hid (∀ W',Calls Tryz.prog 214 #[.string s] W' (ZPRs W' sv v)):=fun W'=>by rw [hsv];exact CZ.out W'
 clear hsg hsv CZ
 have CF2:Hid (∀ W' s B k e B' k' e',ZA W' s B k e v→Nm W' B' k' e' 1→Calls Tryz.prog 211 #[.agg #[.bool s,.slice B k e],.agg #[.slice B' k' e']] W' (OfYs W' sg r)):=fun W' s B k e B' k' e' h1 h2=>by rw [HSG.out];exact CF.out _ _ _ _ _ _ _ _ h1 h2
 have HB:=Bel.refl W
 go_enter Tryz.func181,Tryz.ntmps181
 go_wp2_with (first | (go_at_call 213;(with_reducible refine (CC.out _).mono ?_);rintro e w1 ⟨u,rfl,hbk⟩;have HR:=At.up (at_new0 _ _ _) hbk;replace HB:=(HB.al _).up hbk) | (go_at_call 214;(with_reducible refine (CZ2.out _).mono ?_);rintro e w2 ⟨pA,pc,rfl,pz,hbk⟩;replace HB:=HB.up hbk;replace HR:=HR.up hbk;have hLR:=HR.lt) | fail)
 go_region_held3 (fun w'=>w'.cell? ⟨w2.heap.size,0,none⟩=some (.bool sv)∧w'.cell? ⟨w2.heap.size,1,none⟩=some (.slice pA (dl v.natAbs) pc))
  (first | exact ⟨(at_new0 _ _ _).dr.c0,(at_new0 _ _ _).dr.c1⟩ | exact ⟨HP.c0,HP.c1⟩ | exact ⟨(((HP.far (by omega) _).far (by omega) _).far (by omega) _).c0,(((HP.far (by omega) _).far (by omega) _).far (by omega) _).c1⟩)
  (first | (go_at_call 66;(with_reducible refine (C1.out _).mono ?_);rintro e w3 ⟨nA,nc,rfl,nn,hbk⟩;have HP:=At.up (at_new0 _ _ _).dr hbk;replace HB:=(HB.al _).dr.up hbk;replace HR:=(HR.al _).dr.up hbk;replace pz:=(pz.al _).dr.up hbk;have hLP:=HP.lt) | (go_at_call 211;(with_reducible refine (CF2.out _ _ _ _ _ _ _ _ pz nn).mono ?_);rintro e w4 ⟨B,e1,B',e2,rfl,nz,nd,hbk⟩;replace HB:=HB.up hbk;replace HR:=HR.up hbk;replace HP:=HP.up hbk;have hr_0:=HR.c0;have hr_1:=HR.c1;have hr_2:=HR.c2;have hr_l:=HR.lt;have hr_f0:=HR.f0;have hr_f1:=HR.f1;have hr_f2:=HR.f2) | fail)
 go_wp2_with fail
 refine bodyPost_ret (v:=.tuple #[.agg #[.bool sg,.slice B (dl r.num.natAbs) e1,.slice B' (dl r.den) e2],.bool true]) (by simp [results,Tryz.results181,go_sem,hr_0,hr_1,hr_2]) rfl ?_
 refine ⟨B,e1,B',e2,by rw [HSG.out],zr_of (nz.1.put3 HR now3),nd.put3 HR now3,below3 HB (Nat.le_refl _) _ _ _⟩
end
section
variable {W:World} {s t u:ByteArray}
theorem rparse_n1 (hs:s.size≤99999) (h:s.data.toList=t.data.toList ++ 47 :: u.data.toList) (ht:¬ (47:UInt8) ∈ t.data.toList) (hz:∀ W',Calls Tryz.prog 214 #[.string t] W' (ZPN W')) :
 Calls Tryz.prog 181 #[.string s] W (OfNo W):=by
 have CC:=hide (fun W'=>slash_hit (s:=s) (t:=t) (u:=u) W' (by omega) h ht)
 have CZ:=hide hz
 clear hs h ht hz
 have HB:=Bel.refl W
 go_enter Tryz.func181,Tryz.ntmps181
 go_wp2_with (first | (go_at_call 213;(with_reducible refine (CC.out _).mono ?_);rintro e w1 ⟨rfl,hbk⟩;have HR:=At.up (at_new0 _ _ _) hbk;replace HB:=(HB.al _).up hbk) | (go_at_call 214;(with_reducible refine (CZ.out _).mono ?_);rintro e w2 ⟨rfl,hbk⟩;replace HB:=HB.up hbk;replace HR:=HR.up hbk;have hr_0:=HR.c0;have hr_1:=HR.c1;have hr_2:=HR.c2;have hr_l:=HR.lt;have hr_f0:=HR.f0;have hr_f1:=HR.f1;have hr_f2:=HR.f2) | fail)
 have u0:=fun o=>((HR.put3 (.bool false) (.slice none 0 0) (.slice none 0 0)).al o).c0
 have u1:=fun o=>((HR.put3 (.bool false) (.slice none 0 0) (.slice none 0 0)).al o).c1
 have u2:=fun o=>((HR.put3 (.bool false) (.slice none 0 0) (.slice none 0 0)).al o).c2
 refine bodyPost_ret (v:=.tuple #[.agg #[.bool false,.slice none 0 0,.slice none 0 0],.bool false]) (by simp [results,Tryz.results181,go_sem,u0,u1,u2]) rfl ⟨rfl,?_⟩
 exact (Bel.al (Bel.of (below3 HB (by omega) _ _ _)) _).hid
theorem rparse_n2 {v:Int} (hs:s.size≤99999) (h:s.data.toList=t.data.toList ++ 47 :: u.data.toList) (ht:¬ (47:UInt8) ∈ t.data.toList) (hz:∀ W',Calls Tryz.prog 214 #[.string t] W' (ZPR W' v)) (hd:¬ digB u.data.toList=true) :
 Calls Tryz.prog 181 #[.string s] W (OfNo W):=by
 have CC:=hide (fun W'=>slash_hit (s:=s) (t:=t) (u:=u) W' (by omega) h ht)
 have CZ:=hide hz
 have CN:Hid (∀ W',Calls Tryz.prog 142 #[.string u] W' (PsN W')):=fun W'=>parse_n u W' (by have h1:=congrArg List.length h;rw [← size_list,List.length_append,List.length_cons,← size_list,← size_list] at h1;omega) hd
 clear hs h ht hz hd
 have HB:=Bel.refl W
 go_enter Tryz.func181,Tryz.ntmps181
 go_wp2_with (first | (go_at_call 213;(with_reducible refine (CC.out _).mono ?_);rintro e w1 ⟨rfl,hbk⟩;have HR:=At.up (at_new0 _ _ _) hbk;replace HB:=(HB.al _).up hbk) | (go_at_call 214;(with_reducible refine (CZ.out _).mono ?_);rintro e w2 ⟨pA,pc,rfl,pz,hbk⟩;replace HB:=HB.up hbk;replace HR:=HR.up hbk) | (go_at_call 142;(with_reducible refine (CN.out _).mono ?_);rintro e w3 ⟨rfl,hbk⟩;replace HB:=(HB.al _).up hbk;replace HR:=(HR.al _).up hbk;have hr_0:=HR.c0;have hr_1:=HR.c1;have hr_2:=HR.c2;have hr_l:=HR.lt;have hr_f0:=HR.f0;have hr_f1:=HR.f1;have hr_f2:=HR.f2) | fail)
 have u0:=fun o=>((HR.put3 (.bool false) (.slice none 0 0) (.slice none 0 0)).al o).c0
 have u1:=fun o=>((HR.put3 (.bool false) (.slice none 0 0) (.slice none 0 0)).al o).c1
 have u2:=fun o=>((HR.put3 (.bool false) (.slice none 0 0) (.slice none 0 0)).al o).c2
 refine bodyPost_ret (v:=.tuple #[.agg #[.bool false,.slice none 0 0,.slice none 0 0],.bool false]) (by simp [results,Tryz.results181,go_sem,u0,u1,u2]) rfl ⟨rfl,?_⟩
 exact (Bel.al (Bel.of (below3 HB (by omega) _ _ _)) _).hid
theorem rparse_n3 {v:Int} (hs:s.size≤99999) (h:s.data.toList=t.data.toList ++ 47 :: u.data.toList) (ht:¬ (47:UInt8) ∈ t.data.toList) (hz:∀ W',Calls Tryz.prog 214 #[.string t] W' (ZPR W' v)) (hd:digB u.data.toList=true) (hv:numL u.data.toList=0) :
 Calls Tryz.prog 181 #[.string s] W (OfNo W):=by
 have CC:=hide (fun W'=>slash_hit (s:=s) (t:=t) (u:=u) W' (by omega) h ht)
 have CZ:=hide hz
 have CN:Hid (∀ W',Calls Tryz.prog 142 #[.string u] W' (NPR W' 0)):=fun W'=>npar_h (by have h1:=congrArg List.length h;rw [← size_list,List.length_append,List.length_cons,← size_list,← size_list] at h1;omega) hd hv (Nat.le_trans (dl_le (k:=1) (by decide)) (by decide))
 have CF:Hid (∀ W' s B k e B' k' e',Nm W' B' k' e' 0→Calls Tryz.prog 211 #[.agg #[.bool s,.slice B k e],.agg #[.slice B' k' e']] W' (OfNo W')):=fun W' s B k e B' k' e' h2=>of_no h2
 clear hs h ht hz hd hv
 have HB:=Bel.refl W
 go_enter Tryz.func181,Tryz.ntmps181
 go_wp2_with (first | (go_at_call 213;(with_reducible refine (CC.out _).mono ?_);rintro e w1 ⟨rfl,hbk⟩;have HR:=At.up (at_new0 _ _ _) hbk;replace HB:=(HB.al _).up hbk) | (go_at_call 214;(with_reducible refine (CZ.out _).mono ?_);rintro e w2 ⟨pA,pc,rfl,pz,hbk⟩;replace HB:=HB.up hbk;replace HR:=HR.up hbk) | (go_at_call 142;(with_reducible refine (CN.out _).mono ?_);rintro e w3 ⟨nA,nc,rfl,nn,hbk⟩;have HP:=At.up (at_new0 _ _ _) hbk;replace HB:=(HB.al _).up hbk;replace HR:=(HR.al _).up hbk;have hp_0:=HP.c0;have hp_1:=HP.c1;have hp_l:=HP.lt) | (go_at_call 211;(with_reducible refine (CF.out _ _ _ _ _ _ _ _ (nn.al _)).mono ?_);rintro e w4 ⟨rfl,hbk⟩;replace HB:=(HB.al _).up hbk;replace HR:=(HR.al _).up hbk;clear hp_0 hp_1 hp_l;have hr_0:=HR.c0;have hr_1:=HR.c1;have hr_2:=HR.c2;have hr_l:=HR.lt;have hr_f0:=HR.f0;have hr_f1:=HR.f1;have hr_f2:=HR.f2) | fail)
 refine bodyPost_ret (v:=.tuple #[.agg #[.bool false,.slice none 0 0,.slice none 0 0],.bool false]) (by simp [results,Tryz.results181,go_sem,hr_0,hr_1,hr_2]) rfl ⟨rfl,?_⟩
 exact below3 HB (by omega) _ _ _
end
theorem rparse_n0 {W:World} {s:ByteArray} (hs:s.size≤99999) (ht:¬ (47:UInt8) ∈ s.data.toList) (hz:∀ W',Calls Tryz.prog 214 #[.string s] W' (ZPN W')) :
 Calls Tryz.prog 181 #[.string s] W (OfNo W):=by
 have CC:=hide (fun W'=>slash_miss (s:=s) W' (by omega) ht)
 have CZ:=hide hz
 clear hs ht hz
 have HB:=Bel.refl W
 go_enter Tryz.func181,Tryz.ntmps181
 go_wp2_with (first | (go_at_call 213;(with_reducible refine (CC.out _).mono ?_);rintro e w1 ⟨u,rfl,hbk⟩;have HR:=At.up (at_new0 _ _ _) hbk;replace HB:=(HB.al _).up hbk) | (go_at_call 214;(with_reducible refine (CZ.out _).mono ?_);rintro e w2 ⟨rfl,hbk⟩;replace HB:=HB.up hbk;replace HR:=HR.up hbk;have hr_0:=HR.c0;have hr_1:=HR.c1;have hr_2:=HR.c2;have hr_l:=HR.lt;have hr_f0:=HR.f0;have hr_f1:=HR.f1;have hr_f2:=HR.f2) | fail)
 have u0:=fun o=>((HR.put3 (.bool false) (.slice none 0 0) (.slice none 0 0)).al o).c0
 have u1:=fun o=>((HR.put3 (.bool false) (.slice none 0 0) (.slice none 0 0)).al o).c1
 have u2:=fun o=>((HR.put3 (.bool false) (.slice none 0 0) (.slice none 0 0)).al o).c2
 refine bodyPost_ret (v:=.tuple #[.agg #[.bool false,.slice none 0 0,.slice none 0 0],.bool false]) (by simp [results,Tryz.results181,go_sem,u0,u1,u2]) rfl ⟨rfl,?_⟩
 exact (Bel.al (Bel.of (below3 HB (by omega) _ _ _)) _).hid
end Go.Proofs.YtfflmmbhpchloaaGreatDoor
end
