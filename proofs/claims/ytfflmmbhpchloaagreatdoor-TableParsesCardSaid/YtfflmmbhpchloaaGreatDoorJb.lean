/- Each theorem here says its own conditions. -/
import Derived.Test.YtfflmmbhpchloaaGreatDoorGTpwc15
set_option maxRecDepth 100000
set_option maxHeartbeats 16000000
section
open Go.RowKit
namespace Go.Proofs.YtfflmmbhpchloaaGreatDoor
theorem add_one' (ad:Addr):(⟨ad.block,ad.off + 1,none⟩:Addr)=ad.add 1:=by
 have h:=add_next ad 0 0
 rwa [addr_zero] at h
def GA (W:World) (res:Option (List AL)) (A:Option Addr) (n k:Nat) (ok:Bool):Prop:=Hid (ok=res.isSome ∧ ∀ r,res=some r→n=r.length∧Cs W A (cellsA r)∧n≤k)
def GD (W:World) (res:Option (List AL)) (v:Nat) (A4:Option Addr) (n4 c4:Nat) (A:Option Addr) (n k:Nat) (ok:Bool):Prop:=Hid (ok=res.isSome ∧ ∀ r,res=some r→n=r.length∧Cs W A (cellsA r)∧n≤k∧n4=dl v∧Nm W A4 (dl v) c4 v)
def DenG (W:World) (res:Option (List AL)) (v:Nat) (e:Ending) (W':World):Prop:=∃ A4 n4 c4 A n k ok,e = .returned (.tuple #[.agg #[.slice A4 n4 c4],.slice A n k,.bool ok])∧GD W' res v A4 n4 c4 A n k ok∧Bel W W'
section
variable {W W':World} {res:Option (List AL)} {A A4:Option Addr} {n k n4 c4 v:Nat} {ok:Bool} {e:Ending} {p:Addr}
theorem GA.to (h:GA W res A n k ok) (hc:∀ r,Cs W A (cellsA r)→Cs W' A (cellsA r)):GA W' res A n k ok:=⟨h.out.1,fun r hr=>⟨(h.out.2 r hr).1,hc _ (h.out.2 r hr).2.1,(h.out.2 r hr).2.2⟩⟩
theorem GA.up (h:GA W res A n k ok) (hb:Hid (Below W.heap.size W W')):GA W' res A n k ok:=h.to fun _ h=>h.up hb
theorem GD.to (h:GD W res v A4 n4 c4 A n k ok) (hc:∀ r,Cs W A (cellsA r)→Cs W' A (cellsA r)) (hd:Nm W A4 (dl v) c4 v→Nm W' A4 (dl v) c4 v):GD W' res v A4 n4 c4 A n k ok :=
 ⟨h.out.1,fun r hr=>⟨(h.out.2 r hr).1,hc _ (h.out.2 r hr).2.1,(h.out.2 r hr).2.2.1,(h.out.2 r hr).2.2.2.1,hd (h.out.2 r hr).2.2.2.2⟩⟩
theorem atoms_g (h:AtomsP W res e W'):∃ A n k ok,e = .returned (.tuple #[.slice A n k,.bool ok])∧GA W' res A n k ok∧Bel W W':=by
 cases res with
 | none=>exact ⟨none,0,0,false,h.1,⟨rfl,fun r hr=>by cases hr⟩,h.2⟩
 | some l=>obtain ⟨A,c,h1,_,h3,h4⟩:=h;exact ⟨A,_,c,true,h1,⟨rfl,fun r hr=>by injection hr with hr;subst hr;exact ⟨rfl,Cs.of_own h3.out,own_cap h3.out⟩⟩,h4⟩
end
section
variable {A B:Option Addr} {n c m d j g:Nat} {names ps l:List ByteArray} {w:World}
abbrev PAtoms (w:World) (A B:Option Addr) (n c m d:Nat) (l:List ByteArray) (res:Option (List AL)):Prop :=
 ∀ (W:World) (D:Option Addr) (j g:Nat),Bel w W→Ss W D l→j=l.length→j≤g→Calls Tryz.prog 97 #[.agg #[.slice A n c,.slice B m d],.slice D j g] W (AtomsP W res)
theorem pden_no {x:ByteArray} {ad:Addr} {res:Option (List AL)} (h2:Ss w (some ad) (x :: l)) (hj:j=l.length + 1) (hjg:j≤g) (hjl:j≤1000000) (hxs:x.size≤1000) (hx:numW x.data.toList=false) (CP:Hid (PAtoms w A B n c m d (x :: l) res)) :
 Calls Tryz.prog 98 #[.agg #[.slice A n c,.slice B m d],.slice (some ad) j g] w (DenG w res (1)):=by
 obtain ⟨W1,hW1⟩:∃ X,X=(w.alloc (.cells #[.slice A n c,.slice B m d] 62)).alloc (.cells #[.slice none 0 0] 42):=⟨_,rfl⟩
 have HK:At W1 w.heap.size [.slice A n c,.slice B m d]:=by rw [hW1];exact (at_new0 _ _ _).al _
 have HR:At W1 (w.heap.size + 1) [.slice none 0 0]:=by rw [hW1];exact at_new1 _ _ _ _
 have HB:Bel w W1:=by rw [hW1];exact ((Bel.refl w).al _).al _
 obtain ⟨o,ho⟩:∃ o,o=1:=⟨_,rfl⟩
 have CO:Hid (∀ W:World,Calls Tryz.prog 66 #[.int .u64 1] W (NumR W o)):=fun W=>ho ▸ of_h (v:=1) (by omega)
 have HO1:=khide ho
 obtain ⟨bn,hbn⟩:∃ b,numW x.data.toList=b:=⟨_,rfl⟩
 have CN:Hid (∀ W:World,Calls Tryz.prog 141 #[.string x] W fun e w'=>e = .returned (.bool bn)∧W=w'):=fun W=>hbn ▸ wnumber_any x W
 rw [hbn] at hx
 subst hx
 obtain ⟨ad0,e0,hab,hc0⟩:=h2.out.at_ (k:=0) (by simp)
 injection e0 with e0
 subst e0
 rw [addr_zero] at hc0
 replace hc0:w.cell? ad=some (.string x):=hc0
 have HS:=khide h2
 have HC0:=khide hc0
 have HAB:=khide hab
 have HJ:=khide hj
 have HJG:=khide hjg
 have j0:0 < j:=by omega
 have j1:(0:Int) < (j:Int):=by omega
 have j2:1≤j:=j0
 have HW:=khide hW1
 clear hW1 ho hbn h2 hc0 hab hj hjg hxs
 go_enter Tryz.func98,Tryz.ntmps98
 go_upto_region 1 with fail
 rw [← HW.out]
 go_upto_region 2 with (first | (go_at_call 66;(with_reducible refine (CO.out _).mono ?_);rintro e w2 ⟨A3,c3,rfl,HN,hb2⟩;replace HK:=HK.up hb2;replace HR:=HR.up hb2;replace HB:=HB.up hb2) | fail)
 have hkl:=HK.lt
 have hrl:=HR.lt
 refine kwp_named ?_
 intro W3 hW3
 have HP:At W3 w2.heap.size [.slice A3 (dl o) c3]:=by rw [hW3];exact at_new0 _ _ _
 replace HN:Nm W3 A3 (dl o) c3 o:=by rw [hW3];exact HN.al _
 replace HK:=(by rw [hW3];exact HK.al _:At W3 w.heap.size [.slice A n c,.slice B m d])
 replace HR:=(by rw [hW3];exact HR.al _:At W3 (w.heap.size + 1) [.slice none 0 0])
 replace HB:Bel w W3:=by rw [hW3];exact HB.al _
 have hkp:w2.heap.size ≠ w.heap.size:=Nat.ne_of_gt hkl
 have hrp:w2.heap.size ≠ w.heap.size + 1:=Nat.ne_of_gt hrl
 have hpw:w.heap.size≤w2.heap.size:=Nat.le_of_lt hkl
 obtain ⟨pp,hpp⟩:∃ p,p=w2.heap.size:=⟨_,rfl⟩
 rw [← hpp] at HP hkp hrp hpw
 rw [← hpp]
 clear hW3 hpp hb2 hkl hrl HW CO
 have hcell:W3.cell? ad=some (.string x):=(HB.hid.out.cell HAB.out).trans HC0.out
 have hp_0:=HP.c0;have hp_f0:=HP.f0;have hp_l:=HP.lt
 have hk_0:=HK.c0;have hk_1:=HK.c1;have hk_l:=HK.lt
 have hr_0:=HR.c0;have hr_f0:=HR.f0;have hr_l:=HR.lt
 have CA:Hid (Calls Tryz.prog 97 #[.agg #[.slice A n c,.slice B m d],.slice (some ad) j g] W3 (AtomsP W3 res)):=CP.out _ _ _ _ HB (HS.out.up HB.hid) (by have:=HJ.out;simp;omega) HJG.out
 go_upto_region 5 with (first | (go_at_call 141;(with_reducible refine (CN.out _).mono ?_);rintro e w4 ⟨rfl,rfl⟩) | fail)
 have hwb:=HB.size
 have hrw:=HR.lt
 go_upto_region 6 with (first | (go_at_call 97;(with_reducible refine (CA.out).mono ?_);rintro e w4 h;obtain ⟨A1,n1,c1,ok1,rfl,HO,hb4⟩:=atoms_g h;clear h;clear hp_0 hp_f0 hp_l hk_0 hk_1 hk_l hr_0 hr_f0 hr_l hcell;replace HK:=HK.up hb4.hid;replace HR:=HR.up hb4.hid;replace HP:=HP.up hb4.hid;replace HB:=HB.up hb4.hid;have hp_0:=HP.c0;have hp_f0:=HP.f0;have hp_l:=HP.lt;have hk_0:=HK.c0;have hk_1:=HK.c1;have hk_l:=HK.lt;have hr_0:=HR.c0;have hr_f0:=HR.f0;have hr_l:=HR.lt;replace HN:=HN.up hb4.hid) | fail)
 go_wp2_with fail
 refine bodyPost_ret (v:=.tuple #[.agg #[.slice A3 (dl o) c3],.slice A1 n1 c1,.bool ok1]) (by simp [results,Tryz.results98,go_sem,hr_0,hr_l]) rfl ?_
 refine ⟨A3,_,c3,A1,n1,c1,ok1,rfl,⟨HO.out.1,fun r hr=>?_⟩,Below.setCell HB (Nat.le_succ _) _⟩
 obtain ⟨h1,h2,h3⟩:=HO.out.2 r hr
 exact ⟨h1,Cs.setn h2 HR.c0 _,h3,(by rw [HO1.out]),(by have h9:=Nm.setn HN HR.c0 not_w32 (.slice A3 (dl o) c3);rw [HO1.out] at h9 ⊢;exact h9)⟩
theorem pden_one {x:ByteArray} {ad:Addr} {res:Option (List AL)} (h2:Ss w (some ad) (x :: l)) (hj:j=l.length + 1) (hjg:j≤g) (hjl:j≤1000000) (hxs:x.size≤1000) (hx:numW x.data.toList=true) (hx1:x=oneB) (CP:Hid (PAtoms w A B n c m d (x :: l) res)) :
 Calls Tryz.prog 98 #[.agg #[.slice A n c,.slice B m d],.slice (some ad) j g] w (DenG w res (1)):=by
 obtain ⟨W1,hW1⟩:∃ X,X=(w.alloc (.cells #[.slice A n c,.slice B m d] 62)).alloc (.cells #[.slice none 0 0] 42):=⟨_,rfl⟩
 have HK:At W1 w.heap.size [.slice A n c,.slice B m d]:=by rw [hW1];exact (at_new0 _ _ _).al _
 have HR:At W1 (w.heap.size + 1) [.slice none 0 0]:=by rw [hW1];exact at_new1 _ _ _ _
 have HB:Bel w W1:=by rw [hW1];exact ((Bel.refl w).al _).al _
 obtain ⟨o,ho⟩:∃ o,o=1:=⟨_,rfl⟩
 have CO:Hid (∀ W:World,Calls Tryz.prog 66 #[.int .u64 1] W (NumR W o)):=fun W=>ho ▸ of_h (v:=1) (by omega)
 have HO1:=khide ho
 obtain ⟨bn,hbn⟩:∃ b,numW x.data.toList=b:=⟨_,rfl⟩
 have CN:Hid (∀ W:World,Calls Tryz.prog 141 #[.string x] W fun e w'=>e = .returned (.bool bn)∧W=w'):=fun W=>hbn ▸ wnumber_any x W
 rw [hbn] at hx
 subst hx
 have s1:(x.toList == [49])=true:=(str_tests (decide_eq_true hx1)).1
 have s2:(x.toList != [49])=false:=(str_tests (decide_eq_true hx1)).2
 clear hx1
 obtain ⟨ad0,e0,hab,hc0⟩:=h2.out.at_ (k:=0) (by simp)
 injection e0 with e0
 subst e0
 rw [addr_zero] at hc0
 replace hc0:w.cell? ad=some (.string x):=hc0
 have HS:=khide h2
 have HC0:=khide hc0
 have HAB:=khide hab
 have HJ:=khide hj
 have HJG:=khide hjg
 have j0:0 < j:=by omega
 have j1:(0:Int) < (j:Int):=by omega
 have j2:1≤j:=j0
 have HW:=khide hW1
 clear hW1 ho hbn h2 hc0 hab hj hjg hxs
 go_enter Tryz.func98,Tryz.ntmps98
 go_upto_region 1 with fail
 rw [← HW.out]
 go_upto_region 2 with (first | (go_at_call 66;(with_reducible refine (CO.out _).mono ?_);rintro e w2 ⟨A3,c3,rfl,HN,hb2⟩;replace HK:=HK.up hb2;replace HR:=HR.up hb2;replace HB:=HB.up hb2) | fail)
 have hkl:=HK.lt
 have hrl:=HR.lt
 refine kwp_named ?_
 intro W3 hW3
 have HP:At W3 w2.heap.size [.slice A3 (dl o) c3]:=by rw [hW3];exact at_new0 _ _ _
 replace HN:Nm W3 A3 (dl o) c3 o:=by rw [hW3];exact HN.al _
 replace HK:=(by rw [hW3];exact HK.al _:At W3 w.heap.size [.slice A n c,.slice B m d])
 replace HR:=(by rw [hW3];exact HR.al _:At W3 (w.heap.size + 1) [.slice none 0 0])
 replace HB:Bel w W3:=by rw [hW3];exact HB.al _
 have hkp:w2.heap.size ≠ w.heap.size:=Nat.ne_of_gt hkl
 have hrp:w2.heap.size ≠ w.heap.size + 1:=Nat.ne_of_gt hrl
 have hpw:w.heap.size≤w2.heap.size:=Nat.le_of_lt hkl
 obtain ⟨pp,hpp⟩:∃ p,p=w2.heap.size:=⟨_,rfl⟩
 rw [← hpp] at HP hkp hrp hpw
 rw [← hpp]
 clear hW3 hpp hb2 hkl hrl HW CO
 have hcell:W3.cell? ad=some (.string x):=(HB.hid.out.cell HAB.out).trans HC0.out
 have hp_0:=HP.c0;have hp_f0:=HP.f0;have hp_l:=HP.lt
 have hk_0:=HK.c0;have hk_1:=HK.c1;have hk_l:=HK.lt
 have hr_0:=HR.c0;have hr_f0:=HR.f0;have hr_l:=HR.lt
 have CA:Hid (Calls Tryz.prog 97 #[.agg #[.slice A n c,.slice B m d],.slice (some ad) j g] W3 (AtomsP W3 res)):=CP.out _ _ _ _ HB (HS.out.up HB.hid) (by have:=HJ.out;simp;omega) HJG.out
 go_upto_region 5 with (first | (go_at_call 141;(with_reducible refine (CN.out _).mono ?_);rintro e w4 ⟨rfl,rfl⟩) | fail)
 have hwb:=HB.size
 have hrw:=HR.lt
 go_upto_region 6 with (first | (go_at_call 97;(with_reducible refine (CA.out).mono ?_);rintro e w4 h;obtain ⟨A1,n1,c1,ok1,rfl,HO,hb4⟩:=atoms_g h;clear h;clear hp_0 hp_f0 hp_l hk_0 hk_1 hk_l hr_0 hr_f0 hr_l hcell;replace HK:=HK.up hb4.hid;replace HR:=HR.up hb4.hid;replace HP:=HP.up hb4.hid;replace HB:=HB.up hb4.hid;have hp_0:=HP.c0;have hp_f0:=HP.f0;have hp_l:=HP.lt;have hk_0:=HK.c0;have hk_1:=HK.c1;have hk_l:=HK.lt;have hr_0:=HR.c0;have hr_f0:=HR.f0;have hr_l:=HR.lt;replace HN:=HN.up hb4.hid) | fail)
 go_wp2_with fail
 refine bodyPost_ret (v:=.tuple #[.agg #[.slice A3 (dl o) c3],.slice A1 n1 c1,.bool ok1]) (by simp [results,Tryz.results98,go_sem,hr_0,hr_l]) rfl ?_
 refine ⟨A3,_,c3,A1,n1,c1,ok1,rfl,⟨HO.out.1,fun r hr=>?_⟩,Below.setCell HB (Nat.le_succ _) _⟩
 obtain ⟨h1,h2,h3⟩:=HO.out.2 r hr
 exact ⟨h1,Cs.setn h2 HR.c0 _,h3,(by rw [HO1.out]),(by have h9:=Nm.setn HN HR.c0 not_w32 (.slice A3 (dl o) c3);rw [HO1.out] at h9 ⊢;exact h9)⟩
theorem pden_num {x:ByteArray} {ad:Addr} {res:Option (List AL)} (h2:Ss w (some ad) (x :: l)) (hj:j=l.length + 1) (hjg:j≤g) (hjl:j≤1000000) (hxs:x.size≤1000) (hx:numW x.data.toList=true) (hx1:x ≠ oneB) (CP:Hid (PAtoms w A B n c m d (l) res)) :
 Calls Tryz.prog 98 #[.agg #[.slice A n c,.slice B m d],.slice (some ad) j g] w (DenG w res (nuOf x)):=by
 obtain ⟨W1,hW1⟩:∃ X,X=(w.alloc (.cells #[.slice A n c,.slice B m d] 62)).alloc (.cells #[.slice none 0 0] 42):=⟨_,rfl⟩
 have HK:At W1 w.heap.size [.slice A n c,.slice B m d]:=by rw [hW1];exact (at_new0 _ _ _).al _
 have HR:At W1 (w.heap.size + 1) [.slice none 0 0]:=by rw [hW1];exact at_new1 _ _ _ _
 have HB:Bel w W1:=by rw [hW1];exact ((Bel.refl w).al _).al _
 obtain ⟨o,ho⟩:∃ o,o=1:=⟨_,rfl⟩
 have CO:Hid (∀ W:World,Calls Tryz.prog 66 #[.int .u64 1] W (NumR W o)):=fun W=>ho ▸ of_h (v:=1) (by omega)
 have HO1:=khide ho
 obtain ⟨bn,hbn⟩:∃ b,numW x.data.toList=b:=⟨_,rfl⟩
 have CN:Hid (∀ W:World,Calls Tryz.prog 141 #[.string x] W fun e w'=>e = .returned (.bool bn)∧W=w'):=fun W=>hbn ▸ wnumber_any x W
 rw [hbn] at hx
 subst hx
 have hdig:digB x.data.toList=true:=numW_dig hbn
 obtain ⟨v,hv⟩:∃ v,nuOf x=v:=⟨_,rfl⟩
 have hvl:dl v≤100000:=hv ▸ Nat.le_trans (numW_dl hbn) (by decide)
 have CV:Hid (∀ W:World,Calls Tryz.prog 142 #[.string x] W (ParYes W v)):=fun W=>parse_yes (by omega) hdig hv hvl
 rw [hv]
 have s1:(x.toList == [49])=false:=(str_tests (decide_eq_false hx1)).1
 have s2:(x.toList != [49])=true:=(str_tests (decide_eq_false hx1)).2
 clear hdig hv hvl hx1
 obtain ⟨ad0,e0,hab,hc0⟩:=h2.out.at_ (k:=0) (by simp)
 injection e0 with e0
 subst e0
 rw [addr_zero] at hc0
 replace hc0:w.cell? ad=some (.string x):=hc0
 have HS:=khide h2
 have HC0:=khide hc0
 have HAB:=khide hab
 have HJ:=khide hj
 have HJG:=khide hjg
 have j0:0 < j:=by omega
 have j1:(0:Int) < (j:Int):=by omega
 have j2:1≤j:=j0
 have HW:=khide hW1
 clear hW1 ho hbn h2 hc0 hab hj hjg hxs
 go_enter Tryz.func98,Tryz.ntmps98
 go_upto_region 1 with fail
 rw [← HW.out]
 go_upto_region 2 with (first | (go_at_call 66;(with_reducible refine (CO.out _).mono ?_);rintro e w2 ⟨A3,c3,rfl,HN,hb2⟩;replace HK:=HK.up hb2;replace HR:=HR.up hb2;replace HB:=HB.up hb2) | fail)
 have hkl:=HK.lt
 have hrl:=HR.lt
 refine kwp_named ?_
 intro W3 hW3
 have HP:At W3 w2.heap.size [.slice A3 (dl o) c3]:=by rw [hW3];exact at_new0 _ _ _
 replace HN:Nm W3 A3 (dl o) c3 o:=by rw [hW3];exact HN.al _
 replace HK:=(by rw [hW3];exact HK.al _:At W3 w.heap.size [.slice A n c,.slice B m d])
 replace HR:=(by rw [hW3];exact HR.al _:At W3 (w.heap.size + 1) [.slice none 0 0])
 replace HB:Bel w W3:=by rw [hW3];exact HB.al _
 have hkp:w2.heap.size ≠ w.heap.size:=Nat.ne_of_gt hkl
 have hrp:w2.heap.size ≠ w.heap.size + 1:=Nat.ne_of_gt hrl
 have hpw:w.heap.size≤w2.heap.size:=Nat.le_of_lt hkl
 obtain ⟨pp,hpp⟩:∃ p,p=w2.heap.size:=⟨_,rfl⟩
 rw [← hpp] at HP hkp hrp hpw
 rw [← hpp]
 clear hW3 hpp hb2 hkl hrl HW CO
 have hcell:W3.cell? ad=some (.string x):=(HB.hid.out.cell HAB.out).trans HC0.out
 have hp_0:=HP.c0;have hp_f0:=HP.f0;have hp_l:=HP.lt
 have hk_0:=HK.c0;have hk_1:=HK.c1;have hk_l:=HK.lt
 have hr_0:=HR.c0;have hr_f0:=HR.f0;have hr_l:=HR.lt
 go_upto_region 3 with (first | (go_at_call 141;(with_reducible refine (CN.out _).mono ?_);rintro e w4 ⟨rfl,rfl⟩) | fail)
 go_upto_region 4 with (first | (go_at_call 142;(with_reducible refine (CV.out _).mono ?_);rintro e w4 ⟨A4,c4,rfl,HV,hb4⟩;replace hb4:=Bel.of hb4;clear hp_0 hp_f0 hp_l hk_0 hk_1 hk_l hr_0 hr_f0 hr_l hcell;replace HK:=HK.up hb4.hid;replace HR:=HR.up hb4.hid;replace HP:=HP.up hb4.hid;replace HB:=HB.up hb4.hid;have hp_0:=HP.c0;have hp_f0:=HP.f0;have hp_l:=HP.lt;have hk_0:=HK.c0;have hk_1:=HK.c1;have hk_l:=HK.lt;have hr_0:=HR.c0;have hr_f0:=HR.f0;have hr_l:=HR.lt) | fail)
 refine kwp_named ?_
 intro W5 hW5
 clear hp_0 hp_f0 hp_l hk_0 hk_1 hk_l hr_0 hr_f0 hr_l
 have HOLD:=HP.c0
 replace HP:At W5 pp [.slice A4 (dl v) c4]:=by rw [hW5];exact HP.put (i:=0) (by simp) _
 replace HV:Nm W5 A4 (dl v) c4 v:=by rw [hW5];exact Nm.setn HV HOLD not_w32 _
 replace HK:At W5 w.heap.size [.slice A n c,.slice B m d]:=by rw [hW5];exact HK.far hkp _
 replace HR:At W5 (w.heap.size + 1) [.slice none 0 0]:=by rw [hW5];exact HR.far hrp _
 replace HB:Bel w W5:=by rw [hW5];exact Below.setCell HB hpw _
 clear hW5 hb4 HN
 have hp_0:=HP.c0;have hp_f0:=HP.f0;have hp_l:=HP.lt;have hk_0:=HK.c0;have hk_1:=HK.c1;have hk_l:=HK.lt;have hr_0:=HR.c0;have hr_f0:=HR.f0;have hr_l:=HR.lt
 go_upto_region 5 with fail
 have HS5:Ss W5 (if g=1 then some ad else some ⟨ad.block,ad.off + 1,none⟩) l:=by
  have:=(HS.out.up HB.hid).sub (t:=1) (g:=g) (by have:=HJG.out;have:=HJ.out;simp;omega)
  rw [add_one']
  exact this
 obtain ⟨D5,hD5⟩:∃ D,(if g=1 then some ad else some ⟨ad.block,ad.off + 1,none⟩)=D:=⟨_,rfl⟩
 rw [hD5] at HS5 ⊢
 clear hD5
 have CA:Hid (Calls Tryz.prog 97 #[.agg #[.slice A n c,.slice B m d],.slice D5 (j - 1) (g - 1)] W5 (AtomsP W5 res)):=CP.out _ _ _ _ HB HS5 (by have:=HJ.out;omega) (by have:=HJG.out;omega)
 have hwb:=HB.size
 have hrw:=HR.lt
 go_upto_region 6 with (first | (go_at_call 97;(with_reducible refine (CA.out).mono ?_);rintro e w4 h;obtain ⟨A1,n1,c1,ok1,rfl,HO,hb4⟩:=atoms_g h;clear h;clear hp_0 hp_f0 hp_l hk_0 hk_1 hk_l hr_0 hr_f0 hr_l;replace HK:=HK.up hb4.hid;replace HR:=HR.up hb4.hid;replace HP:=HP.up hb4.hid;replace HB:=HB.up hb4.hid;have hp_0:=HP.c0;have hp_f0:=HP.f0;have hp_l:=HP.lt;have hk_0:=HK.c0;have hk_1:=HK.c1;have hk_l:=HK.lt;have hr_0:=HR.c0;have hr_f0:=HR.f0;have hr_l:=HR.lt;replace HV:=HV.up hb4.hid) | fail)
 go_wp2_with fail
 refine bodyPost_ret (v:=.tuple #[.agg #[.slice A4 (dl v) c4],.slice A1 n1 c1,.bool ok1]) (by simp [results,Tryz.results98,go_sem,hr_0,hr_l]) rfl ?_
 refine ⟨A4,_,c4,A1,n1,c1,ok1,rfl,⟨HO.out.1,fun r hr=>?_⟩,Below.setCell HB (Nat.le_succ _) _⟩
 obtain ⟨h1,h2,h3⟩:=HO.out.2 r hr
 exact ⟨h1,Cs.setn h2 HR.c0 _,h3,rfl,Nm.setn HV HR.c0 not_w32 _⟩
end
end Go.Proofs.YtfflmmbhpchloaaGreatDoor
end
