/- Each theorem here says its own conditions. -/
import Derived.Test.YtfflmmbhpchloaaGreatDoorGTpwc42
set_option maxRecDepth 100000
set_option maxHeartbeats 16000000
section
open Go.RowKit
namespace Go.Proofs.YtfflmmbhpchloaaGreatDoor
theorem nuT_one_iff (m:Nat):nuT m=oneB ↔ m=1:=by rw [← nuT_one];exact ⟨nuT_inj,fun h=>by rw [h]⟩
theorem cmpI_ne {a b:Nat} (h:a ≠ b):(cmpI a b != 0)=true:=by
 unfold cmpI
 split
 ·rfl
 ·split
  ·rfl
  ·omega
abbrev PApp (W1:World) (B:Option Addr) (m d:Nat) (ys:List ByteArray):Prop :=
 ∀ (W:World) (R:Option Addr) (z cp:Nat) (xs:List ByteArray),Hid (Below W1.heap.size W1 W)→z=xs.length→z≤1000000→Hid (W.ownsRow W1.heap.size 9 1 (.slice R z cp) z (xs.map Value.string))→Calls Tryz.prog 64 #[.slice R z cp,.slice B m d] W (AppR W1 (xs ++ ys))
section
variable {A B C:Option Addr} {n c m d e f v:Nat} {xs ys zs:List ByteArray} {S:ByteArray} {w:World}
theorem ushow_a0 (hv:v=1) (hm0:m=0) (HC:Nm w C e f v) (C1:∀ W1,Hid (Below w.heap.size w W1)→PApp W1 A n c xs) (C2:∀ W1,Hid (Below w.heap.size w W1)→PApp W1 B m d ys) (hx:xs.length≤1000) (hy:ys.length≤1000) (hzs:zs=xs ++ ys) (hJ:(glue 45 (zs.map (·.data.toList))).length≤140737488355328) (hS:joinS zs=S) :
 Calls Tryz.prog 37 #[.agg #[.slice A n c,.slice B m d,.slice C e f]] w (StrR w S):=by
 obtain ⟨W1,hW1⟩:∃ X,X=w.alloc (.cells #[.slice A n c,.slice B m d,.slice C e f] 44):=⟨_,rfl⟩
 have HA1:At W1 w.heap.size [.slice A n c,.slice B m d,.slice C e f]:=by rw [hW1];exact at_new0 _ _ _
 have HB1:Bel w W1:=by rw [hW1];exact (Bel.refl w).al _
 have hb0:Hid (Below w.heap.size w W1):=HB1
 replace HC:Nm W1 C e f v:=HC.up hb0
 replace C1:Hid (PApp W1 A n c xs):=C1 W1 hb0
 replace C2:Hid (PApp W1 B m d ys):=C2 W1 hb0
 have LZ:zs.length≤10000:=by rw [hzs];simp;omega
 have CJ:Hid (∀ (W':World) (A':Option Addr) (n' c':Nat),Ss W' A' zs→n'=zs.length→n'≤c'→Calls Tryz.prog 31 #[.slice A' n' c'] W' (StrR W' S)):=fun W' A' n' c' h1 h2 h3=>hS ▸ wjoin_any h1 h2 h3 (by omega) hJ
 have CA:Hid (Calls Tryz.prog 64 #[.slice none 0 0,.slice A n c] W1 (AppR W1 xs)):=C1.out W1 none 0 0 [] (Below.refl _ _) rfl (by omega) (World.ownsRow_nil _ _ _ _)
 have HZS:=khide hzs
 obtain ⟨o,ho⟩:∃ o,o=1:=⟨_,rfl⟩
 have CO:Hid (∀ W:World,Calls Tryz.prog 66 #[.int .u64 1] W (NumR W o)):=fun W=>ho ▸ of_h (v:=1) (by omega)
 obtain ⟨q,hq⟩:∃ q,cmpI v o=q:=⟨_,rfl⟩
 have CM:Hid (∀ (W:World) (A':Option Addr) (c':Nat),Nm W C e f v→Nm W A' (dl o) c' o→Calls Tryz.prog 65 #[.agg #[.slice C e f],.agg #[.slice A' (dl o) c']] W (IntPost W q)):=fun W A' c' h1 h2=>cmp_h h1 h2 hq
 have q1:(q != 0)=false:=by rw [← hq,ho,hv,cmpI_eq rfl];rfl
 have q2:(q == 0)=true:=by rw [← hq,ho,hv,cmpI_eq rfl];rfl
 have dm:decide ((0:Int) < (m:Int))=false:=decide_eq_false (by omega)
 have dn:decide (0 < m)=false:=decide_eq_false (by omega)
 have dq:¬ 0 < m:=by omega
 obtain ⟨i0,hi,hz0,hz1,hz2⟩:=info_parts hinfoStr
 have J0:=khide hi;have Y0:=khide hz0;have Y1:=khide hz1;have Y2:=khide hz2
 have HW:=khide hW1
 clear hi hz0 hz1 hz2 hW1 hzs hJ hS ho hq hv hm0 hb0
 have ha_0:=HA1.c0;have ha_1:=HA1.c1;have ha_2:=HA1.c2;have ha_l:=HA1.lt
 go_enter Tryz.func37,Tryz.ntmps37
 go_upto_region 1 with fail
 rw [← HW.out]
 go_upto_region 2 with (first | (go_at_call 64;(with_reducible refine (CA.out).mono ?_);rintro e w2 ⟨A2,c2,z2,hz2,rfl,HO2,HB2⟩;obtain rfl:=hz2.out;clear ha_0 ha_1 ha_2 ha_l;have HA2:=HA1.up HB2;have ha_0:=HA2.c0;have ha_1:=HA2.c1;have ha_2:=HA2.c2;have ha_l:=HA2.lt) | fail)
 replace HO2:Hid (w2.ownsRow W1.heap.size 9 1 (.slice A2 xs.length c2) xs.length (xs.map Value.string)):=HO2
 have HC2:Nm w2 C e f v:=HC.up HB2
 have HS2:Hid (W1.heap.size≤w2.heap.size):=HB2.out.size
 replace HA2:=HA2.dr
 replace HB2:Hid (Below W1.heap.size W1 w2.drew):=HB2.out.drew
 replace HC2:=HC2.dr
 replace HO2:Hid (w2.drew.ownsRow W1.heap.size 9 1 (.slice A2 xs.length c2) xs.length (xs.map Value.string)):=HO2
 replace HS2:Hid (W1.heap.size≤w2.drew.heap.size):=HS2
 clear ha_0 ha_1 ha_2 ha_l
 refine wp_region_held_drew (S:=fun w'=>w'.cell? ⟨w.heap.size,2,none⟩=some (.slice C e f)) (by kernel_rfl) ?_ (fun hHeld=>?_)
 ·exact HA2.c2
 generalize w2.drew=Wd at *
 refine tq 0 ?_
 refine tq 1 ?_
 (refine sk 2 (fun K hK=>?_);go_simp;(go_at_call 66;(with_reducible refine (CO.out _).mono ?_);rintro e w3 ⟨A3,c3,rfl,HN,hb3⟩;replace HA2:=HA2.up hb3;replace HC2:=HC2.up hb3;replace HO2:=khide (own_up HO2.out hb3);replace HB2:=khide (HB2.out.trans (hb3.out.mono HS2.out));replace HS2:=khide HB2.out.size);(try (go_wp2_with fail));refine hK.out _ _ ?_ (fun hHeld=>?_);(focus ((try dsimp only);(with_reducible exact HA2.c2)));clear hK K;(try simp only [lay7,Act.put]))
 (refine sk 3 (fun K hK=>?_);go_simp;(go_at_call 65;(with_reducible refine (CM.out _ _ _ HC2 HN).mono ?_);rintro e w4 ⟨rfl,hb4⟩;replace HA2:=HA2.up hb4;replace HC2:=HC2.up hb4;replace HO2:=khide (own_up HO2.out hb4);replace HB2:=khide (HB2.out.trans (hb4.out.mono HS2.out));replace HS2:=khide HB2.out.size);(try (go_wp2_with fail));refine hK.out _ _ ?_ (fun hHeld=>?_);(focus ((try dsimp only);(with_reducible exact HA2.c2)));clear hK K;(try simp only [lay7,Act.put]))
 refine tq 4 ?_
 refine tq 5 ?_
 refine wpAnyH_done (by decide +kernel) ?_ _
 have ha_0:=HA2.c0;have ha_1:=HA2.c1;have ha_2:=HA2.c2;have ha_l:=HA2.lt
 have HO4:=HO2;have HB4:=HB2;have HS4:=HS2;have HC4:=HC2
 clear HO2 HB2 HS2 HC2 HC
 go_wp2_with (first | (go_at_call 64;(with_reducible refine (C2.out _ _ _ _ (xs) HB4 (by simp) (by omega) HO4).mono ?_);rintro e w8 ⟨A8,c8,z8,hz8,rfl,HO8,HB8⟩) | (go_at_call 31;(with_reducible refine (CJ.out _ _ _ _ (ss_own' HO8.out (by rw [HZS.out]) (by rw [HZS.out];exact hz8.out)) (by rw [HZS.out];exact hz8.out) (own_cap HO8.out)).mono ?_);rintro e w9 ⟨rfl,hb9⟩) | fail)
 go_ret
 exact ⟨rfl,(HB1.up (HB8.out.trans (hb9.out.mono HB8.out.size)))⟩
theorem ushow_a1 (hv:v=1) (hm0:0 < m) (HC:Nm w C e f v) (C1:∀ W1,Hid (Below w.heap.size w W1)→PApp W1 A n c xs) (C2:∀ W1,Hid (Below w.heap.size w W1)→PApp W1 B m d ys) (hx:xs.length≤1000) (hy:ys.length≤1000) (hzs:zs=xs ++ [perB] ++ ys) (hJ:(glue 45 (zs.map (·.data.toList))).length≤140737488355328) (hS:joinS zs=S) :
 Calls Tryz.prog 37 #[.agg #[.slice A n c,.slice B m d,.slice C e f]] w (StrR w S):=by
 obtain ⟨W1,hW1⟩:∃ X,X=w.alloc (.cells #[.slice A n c,.slice B m d,.slice C e f] 44):=⟨_,rfl⟩
 have HA1:At W1 w.heap.size [.slice A n c,.slice B m d,.slice C e f]:=by rw [hW1];exact at_new0 _ _ _
 have HB1:Bel w W1:=by rw [hW1];exact (Bel.refl w).al _
 have hb0:Hid (Below w.heap.size w W1):=HB1
 replace HC:Nm W1 C e f v:=HC.up hb0
 replace C1:Hid (PApp W1 A n c xs):=C1 W1 hb0
 replace C2:Hid (PApp W1 B m d ys):=C2 W1 hb0
 have LZ:zs.length≤10000:=by rw [hzs];simp;omega
 have CJ:Hid (∀ (W':World) (A':Option Addr) (n' c':Nat),Ss W' A' zs→n'=zs.length→n'≤c'→Calls Tryz.prog 31 #[.slice A' n' c'] W' (StrR W' S)):=fun W' A' n' c' h1 h2 h3=>hS ▸ wjoin_any h1 h2 h3 (by omega) hJ
 have CA:Hid (Calls Tryz.prog 64 #[.slice none 0 0,.slice A n c] W1 (AppR W1 xs)):=C1.out W1 none 0 0 [] (Below.refl _ _) rfl (by omega) (World.ownsRow_nil _ _ _ _)
 have HZS:=khide hzs
 obtain ⟨o,ho⟩:∃ o,o=1:=⟨_,rfl⟩
 have CO:Hid (∀ W:World,Calls Tryz.prog 66 #[.int .u64 1] W (NumR W o)):=fun W=>ho ▸ of_h (v:=1) (by omega)
 obtain ⟨q,hq⟩:∃ q,cmpI v o=q:=⟨_,rfl⟩
 have CM:Hid (∀ (W:World) (A':Option Addr) (c':Nat),Nm W C e f v→Nm W A' (dl o) c' o→Calls Tryz.prog 65 #[.agg #[.slice C e f],.agg #[.slice A' (dl o) c']] W (IntPost W q)):=fun W A' c' h1 h2=>cmp_h h1 h2 hq
 have q1:(q != 0)=false:=by rw [← hq,ho,hv,cmpI_eq rfl];rfl
 have q2:(q == 0)=true:=by rw [← hq,ho,hv,cmpI_eq rfl];rfl
 have dm:decide ((0:Int) < (m:Int))=true:=decide_eq_true (by omega)
 have dn:decide (0 < m)=true:=decide_eq_true (by omega)
 have dq:0 < m:=by omega
 obtain ⟨i0,hi,hz0,hz1,hz2⟩:=info_parts hinfoStr
 have J0:=khide hi;have Y0:=khide hz0;have Y1:=khide hz1;have Y2:=khide hz2
 have HW:=khide hW1
 clear hi hz0 hz1 hz2 hW1 hzs hJ hS ho hq hv hm0 hb0
 have ha_0:=HA1.c0;have ha_1:=HA1.c1;have ha_2:=HA1.c2;have ha_l:=HA1.lt
 go_enter Tryz.func37,Tryz.ntmps37
 go_upto_region 1 with fail
 rw [← HW.out]
 go_upto_region 2 with (first | (go_at_call 64;(with_reducible refine (CA.out).mono ?_);rintro e w2 ⟨A2,c2,z2,hz2,rfl,HO2,HB2⟩;obtain rfl:=hz2.out;clear ha_0 ha_1 ha_2 ha_l;have HA2:=HA1.up HB2;have ha_0:=HA2.c0;have ha_1:=HA2.c1;have ha_2:=HA2.c2;have ha_l:=HA2.lt) | fail)
 replace HO2:Hid (w2.ownsRow W1.heap.size 9 1 (.slice A2 xs.length c2) xs.length (xs.map Value.string)):=HO2
 have HC2:Nm w2 C e f v:=HC.up HB2
 have HS2:Hid (W1.heap.size≤w2.heap.size):=HB2.out.size
 replace HA2:=HA2.dr
 replace HB2:Hid (Below W1.heap.size W1 w2.drew):=HB2.out.drew
 replace HC2:=HC2.dr
 replace HO2:Hid (w2.drew.ownsRow W1.heap.size 9 1 (.slice A2 xs.length c2) xs.length (xs.map Value.string)):=HO2
 replace HS2:Hid (W1.heap.size≤w2.drew.heap.size):=HS2
 clear ha_0 ha_1 ha_2 ha_l
 refine wp_region_held_drew (S:=fun w'=>w'.cell? ⟨w.heap.size,2,none⟩=some (.slice C e f)) (by kernel_rfl) ?_ (fun hHeld=>?_)
 ·exact HA2.c2
 generalize w2.drew=Wd at *
 refine tq 0 ?_
 refine tq 1 ?_
 (refine sk 2 (fun K hK=>?_);go_simp;(go_at_call 66;(with_reducible refine (CO.out _).mono ?_);rintro e w3 ⟨A3,c3,rfl,HN,hb3⟩;replace HA2:=HA2.up hb3;replace HC2:=HC2.up hb3;replace HO2:=khide (own_up HO2.out hb3);replace HB2:=khide (HB2.out.trans (hb3.out.mono HS2.out));replace HS2:=khide HB2.out.size);(try (go_wp2_with fail));refine hK.out _ _ ?_ (fun hHeld=>?_);(focus ((try dsimp only);(with_reducible exact HA2.c2)));clear hK K;(try simp only [lay7,Act.put]))
 (refine sk 3 (fun K hK=>?_);go_simp;(go_at_call 65;(with_reducible refine (CM.out _ _ _ HC2 HN).mono ?_);rintro e w4 ⟨rfl,hb4⟩;replace HA2:=HA2.up hb4;replace HC2:=HC2.up hb4;replace HO2:=khide (own_up HO2.out hb4);replace HB2:=khide (HB2.out.trans (hb4.out.mono HS2.out));replace HS2:=khide HB2.out.size);(try (go_wp2_with fail));refine hK.out _ _ ?_ (fun hHeld=>?_);(focus ((try dsimp only);(with_reducible exact HA2.c2)));clear hK K;(try simp only [lay7,Act.put]))
 refine tq 4 ?_
 refine tq 5 ?_
 refine wpAnyH_done (by decide +kernel) ?_ _
 have ha_0:=HA2.c0;have ha_1:=HA2.c1;have ha_2:=HA2.c2;have ha_l:=HA2.lt
 have HO4:=HO2;have HB4:=HB2;have HS4:=HS2;have HC4:=HC2
 clear HO2 HB2 HS2 HC2 HC
 go_wp2_with (first | (at_builtin;refine wpList_append_own _ rfl (.tmp 20) (.tmp 21) 60 rfl W1.heap.size 9 i0 (.string ByteArray.empty) 1 16 Tryz.underlying60 J0.out Y0.out Y1.out Y2.out rfl (by decide) _ _ _ rfl (HO4.out.alloc _) ⟨w4.heap.size,0,none⟩ 1 1 [.string ⟨#[112,101,114]⟩] rfl rfl (at_news (at_new0 _ _ _)) (one_str _) (by simp only [maxLen];omega) (by omega) (Nat.le_trans HS4.out (by simp)) ?_;intro v5 w5 ho hg hn1;clear hn1;obtain ⟨A5,c5,rfl,_⟩:=own_slice ho;have HB5:Hid (Below W1.heap.size W1 w5):=grown_on HB4 HS4.out HO4.out hg;have HS5:Hid (W1.heap.size≤w5.heap.size):=HB5.out.size;have HO5:=khide ho;clear ho hg;clear ha_0 ha_1 ha_2 ha_l;have HA5:=HA1.up HB5;have ha_0:=HA5.c0;have ha_1:=HA5.c1;have ha_2:=HA5.c2;have ha_l:=HA5.lt) | (go_at_call 64;(with_reducible refine (C2.out _ _ _ _ (xs ++ [perB]) HB5 (by simp) (by omega) (by have h9:=HO5;simpa [perB] using h9)).mono ?_);rintro e w8 ⟨A8,c8,z8,hz8,rfl,HO8,HB8⟩) | (go_at_call 31;(with_reducible refine (CJ.out _ _ _ _ (ss_own' HO8.out (by rw [HZS.out]) (by rw [HZS.out];exact hz8.out)) (by rw [HZS.out];exact hz8.out) (own_cap HO8.out)).mono ?_);rintro e w9 ⟨rfl,hb9⟩) | fail)
 go_ret
 exact ⟨rfl,(HB1.up (HB8.out.trans (hb9.out.mono HB8.out.size)))⟩
theorem ushow_b0 (hv:v ≠ 1) (hm0:m=0) (HC:Nm w C e f v) (C1:∀ W1,Hid (Below w.heap.size w W1)→PApp W1 A n c xs) (C2:∀ W1,Hid (Below w.heap.size w W1)→PApp W1 B m d ys) (hx:xs.length≤1000) (hy:ys.length≤1000) (hzs:zs=xs ++ [perB] ++ [nuT v] ++ ys) (hJ:(glue 45 (zs.map (·.data.toList))).length≤140737488355328) (hS:joinS zs=S) :
 Calls Tryz.prog 37 #[.agg #[.slice A n c,.slice B m d,.slice C e f]] w (StrR w S):=by
 obtain ⟨W1,hW1⟩:∃ X,X=w.alloc (.cells #[.slice A n c,.slice B m d,.slice C e f] 44):=⟨_,rfl⟩
 have HA1:At W1 w.heap.size [.slice A n c,.slice B m d,.slice C e f]:=by rw [hW1];exact at_new0 _ _ _
 have HB1:Bel w W1:=by rw [hW1];exact (Bel.refl w).al _
 have hb0:Hid (Below w.heap.size w W1):=HB1
 replace HC:Nm W1 C e f v:=HC.up hb0
 have HC1X:Hid (∀ W,Hid (Below W1.heap.size W1 W)→Nm W C e f v):=fun W hb=>HC.up hb
 replace C1:Hid (PApp W1 A n c xs):=C1 W1 hb0
 replace C2:Hid (PApp W1 B m d ys):=C2 W1 hb0
 have LZ:zs.length≤10000:=by rw [hzs];simp;omega
 have CJ:Hid (∀ (W':World) (A':Option Addr) (n' c':Nat),Ss W' A' zs→n'=zs.length→n'≤c'→Calls Tryz.prog 31 #[.slice A' n' c'] W' (StrR W' S)):=fun W' A' n' c' h1 h2 h3=>hS ▸ wjoin_any h1 h2 h3 (by omega) hJ
 have CA:Hid (Calls Tryz.prog 64 #[.slice none 0 0,.slice A n c] W1 (AppR W1 xs)):=C1.out W1 none 0 0 [] (Below.refl _ _) rfl (by omega) (World.ownsRow_nil _ _ _ _)
 have HZS:=khide hzs
 obtain ⟨o,ho⟩:∃ o,o=1:=⟨_,rfl⟩
 have CO:Hid (∀ W:World,Calls Tryz.prog 66 #[.int .u64 1] W (NumR W o)):=fun W=>ho ▸ of_h (v:=1) (by omega)
 obtain ⟨q,hq⟩:∃ q,cmpI v o=q:=⟨_,rfl⟩
 have CM:Hid (∀ (W:World) (A':Option Addr) (c':Nat),Nm W C e f v→Nm W A' (dl o) c' o→Calls Tryz.prog 65 #[.agg #[.slice C e f],.agg #[.slice A' (dl o) c']] W (IntPost W q)):=fun W A' c' h1 h2=>cmp_h h1 h2 hq
 have q1:(q != 0)=true:=by rw [← hq,ho];exact cmpI_ne hv
 have q2:(q == 0)=false:=by have:=q1;simpa [bne] using this
 have CT:Hid (∀ W:World,Nm W C e f v→Calls Tryz.prog 43 #[.agg #[.slice C e f]] W (TextR W (nuT v))):=fun W h=>text_r h (nuT_data v)
 have dm:decide ((0:Int) < (m:Int))=false:=decide_eq_false (by omega)
 have dn:decide (0 < m)=false:=decide_eq_false (by omega)
 have dq:¬ 0 < m:=by omega
 obtain ⟨i0,hi,hz0,hz1,hz2⟩:=info_parts hinfoStr
 have J0:=khide hi;have Y0:=khide hz0;have Y1:=khide hz1;have Y2:=khide hz2
 have HW:=khide hW1
 clear hi hz0 hz1 hz2 hW1 hzs hJ hS ho hq hv hm0 hb0
 have ha_0:=HA1.c0;have ha_1:=HA1.c1;have ha_2:=HA1.c2;have ha_l:=HA1.lt
 go_enter Tryz.func37,Tryz.ntmps37
 go_upto_region 1 with fail
 rw [← HW.out]
 go_upto_region 2 with (first | (go_at_call 64;(with_reducible refine (CA.out).mono ?_);rintro e w2 ⟨A2,c2,z2,hz2,rfl,HO2,HB2⟩;obtain rfl:=hz2.out;clear ha_0 ha_1 ha_2 ha_l;have HA2:=HA1.up HB2;have ha_0:=HA2.c0;have ha_1:=HA2.c1;have ha_2:=HA2.c2;have ha_l:=HA2.lt) | fail)
 replace HO2:Hid (w2.ownsRow W1.heap.size 9 1 (.slice A2 xs.length c2) xs.length (xs.map Value.string)):=HO2
 have HC2:Nm w2 C e f v:=HC.up HB2
 have HS2:Hid (W1.heap.size≤w2.heap.size):=HB2.out.size
 replace HA2:=HA2.dr
 replace HB2:Hid (Below W1.heap.size W1 w2.drew):=HB2.out.drew
 replace HC2:=HC2.dr
 replace HO2:Hid (w2.drew.ownsRow W1.heap.size 9 1 (.slice A2 xs.length c2) xs.length (xs.map Value.string)):=HO2
 replace HS2:Hid (W1.heap.size≤w2.drew.heap.size):=HS2
 clear ha_0 ha_1 ha_2 ha_l
 refine wp_region_held_drew (S:=fun w'=>w'.cell? ⟨w.heap.size,2,none⟩=some (.slice C e f)) (by kernel_rfl) ?_ (fun hHeld=>?_)
 ·exact HA2.c2
 generalize w2.drew=Wd at *
 refine tq 0 ?_
 refine tq 1 ?_
 (refine sk 2 (fun K hK=>?_);go_simp;(go_at_call 66;(with_reducible refine (CO.out _).mono ?_);rintro e w3 ⟨A3,c3,rfl,HN,hb3⟩;replace HA2:=HA2.up hb3;replace HC2:=HC2.up hb3;replace HO2:=khide (own_up HO2.out hb3);replace HB2:=khide (HB2.out.trans (hb3.out.mono HS2.out));replace HS2:=khide HB2.out.size);(try (go_wp2_with fail));refine hK.out _ _ ?_ (fun hHeld=>?_);(focus ((try dsimp only);(with_reducible exact HA2.c2)));clear hK K;(try simp only [lay7,Act.put]))
 (refine sk 3 (fun K hK=>?_);go_simp;(go_at_call 65;(with_reducible refine (CM.out _ _ _ HC2 HN).mono ?_);rintro e w4 ⟨rfl,hb4⟩;replace HA2:=HA2.up hb4;replace HC2:=HC2.up hb4;replace HO2:=khide (own_up HO2.out hb4);replace HB2:=khide (HB2.out.trans (hb4.out.mono HS2.out));replace HS2:=khide HB2.out.size);(try (go_wp2_with fail));refine hK.out _ _ ?_ (fun hHeld=>?_);(focus ((try dsimp only);(with_reducible exact HA2.c2)));clear hK K;(try simp only [lay7,Act.put]))
 refine tq 4 ?_
 refine tq 5 ?_
 refine wpAnyH_done (by decide +kernel) ?_ _
 have ha_0:=HA2.c0;have ha_1:=HA2.c1;have ha_2:=HA2.c2;have ha_l:=HA2.lt
 have HO4:=HO2;have HB4:=HB2;have HS4:=HS2;have HC4:=HC2
 clear HO2 HB2 HS2 HC2 HC
 have HC4X:Hid (∀ W,Hid (Below W1.heap.size W1 W)→Nm W C e f v):=HC1X
 clear HC4
 go_wp2_with (first | (at_builtin;refine wpList_append_own _ rfl (.tmp 20) (.tmp 21) 60 rfl W1.heap.size 9 i0 (.string ByteArray.empty) 1 16 Tryz.underlying60 J0.out Y0.out Y1.out Y2.out rfl (by decide) _ _ _ rfl (HO4.out.alloc _) ⟨w4.heap.size,0,none⟩ 1 1 [.string ⟨#[112,101,114]⟩] rfl rfl (at_news (at_new0 _ _ _)) (one_str _) (by simp only [maxLen];omega) (by omega) (Nat.le_trans HS4.out (by simp)) ?_;intro v5 w5 ho hg hn1;clear hn1;obtain ⟨A5,c5,rfl,_⟩:=own_slice ho;have HB5:Hid (Below W1.heap.size W1 w5):=grown_on HB4 HS4.out HO4.out hg;have HS5:Hid (W1.heap.size≤w5.heap.size):=HB5.out.size;have HO5:=khide ho;clear ho hg;clear ha_0 ha_1 ha_2 ha_l;have HA5:=HA1.up HB5;have ha_0:=HA5.c0;have ha_1:=HA5.c1;have ha_2:=HA5.c2;have ha_l:=HA5.lt;have HC5:Nm w5 C e f v:=HC4X.out w5 HB5) | (go_at_call 43;(with_reducible refine (CT.out _ HC5).mono ?_);rintro e w6 ⟨rfl,hb6⟩;have HB6:Hid (Below W1.heap.size W1 w6):=HB5.out.trans (hb6.out.mono HS5.out);have HS6:Hid (W1.heap.size≤w6.heap.size):=HB6.out.size;have HO6:=khide (own_up HO5.out hb6);clear ha_0 ha_1 ha_2 ha_l;have HA6:=HA1.up HB6;have ha_0:=HA6.c0;have ha_1:=HA6.c1;have ha_2:=HA6.c2;have ha_l:=HA6.lt) | (at_builtin;refine wpList_append_own _ rfl (.tmp 24) (.tmp 28) 60 rfl W1.heap.size 9 i0 (.string ByteArray.empty) 1 16 Tryz.underlying60 J0.out Y0.out Y1.out Y2.out rfl (by decide) _ _ _ rfl (HO6.out.alloc _) ⟨w6.heap.size,0,none⟩ 1 1 [.string (nuT v)] rfl rfl (at_news (at_new0 _ _ _)) (one_str _) (by simp only [maxLen];omega) (by omega) (Nat.le_trans HS6.out (by simp)) ?_;intro v7 w7 ho hg hn1;clear hn1;obtain ⟨A7,c7,rfl,_⟩:=own_slice ho;have HB7:Hid (Below W1.heap.size W1 w7):=grown_on HB6 HS6.out HO6.out hg;have HS7:Hid (W1.heap.size≤w7.heap.size):=HB7.out.size;have HO7:=khide ho;clear ho hg;clear ha_0 ha_1 ha_2 ha_l;have HA7:=HA1.up HB7;have ha_0:=HA7.c0;have ha_1:=HA7.c1;have ha_2:=HA7.c2;have ha_l:=HA7.lt) | (go_at_call 64;(with_reducible refine (C2.out _ _ _ _ (xs ++ [perB] ++ [nuT v]) HB7 (by simp) (by omega) (by have h9:=HO7;simpa [perB] using h9)).mono ?_);rintro e w8 ⟨A8,c8,z8,hz8,rfl,HO8,HB8⟩) | (go_at_call 31;(with_reducible refine (CJ.out _ _ _ _ (ss_own' HO8.out (by rw [HZS.out]) (by rw [HZS.out];exact hz8.out)) (by rw [HZS.out];exact hz8.out) (own_cap HO8.out)).mono ?_);rintro e w9 ⟨rfl,hb9⟩) | fail)
 go_ret
 exact ⟨rfl,(HB1.up (HB8.out.trans (hb9.out.mono HB8.out.size)))⟩
theorem ushow_b1 (hv:v ≠ 1) (hm0:0 < m) (HC:Nm w C e f v) (C1:∀ W1,Hid (Below w.heap.size w W1)→PApp W1 A n c xs) (C2:∀ W1,Hid (Below w.heap.size w W1)→PApp W1 B m d ys) (hx:xs.length≤1000) (hy:ys.length≤1000) (hzs:zs=xs ++ [perB] ++ [nuT v] ++ ys) (hJ:(glue 45 (zs.map (·.data.toList))).length≤140737488355328) (hS:joinS zs=S) :
 Calls Tryz.prog 37 #[.agg #[.slice A n c,.slice B m d,.slice C e f]] w (StrR w S):=by
 obtain ⟨W1,hW1⟩:∃ X,X=w.alloc (.cells #[.slice A n c,.slice B m d,.slice C e f] 44):=⟨_,rfl⟩
 have HA1:At W1 w.heap.size [.slice A n c,.slice B m d,.slice C e f]:=by rw [hW1];exact at_new0 _ _ _
 have HB1:Bel w W1:=by rw [hW1];exact (Bel.refl w).al _
 have hb0:Hid (Below w.heap.size w W1):=HB1
 replace HC:Nm W1 C e f v:=HC.up hb0
 have HC1X:Hid (∀ W,Hid (Below W1.heap.size W1 W)→Nm W C e f v):=fun W hb=>HC.up hb
 replace C1:Hid (PApp W1 A n c xs):=C1 W1 hb0
 replace C2:Hid (PApp W1 B m d ys):=C2 W1 hb0
 have LZ:zs.length≤10000:=by rw [hzs];simp;omega
 have CJ:Hid (∀ (W':World) (A':Option Addr) (n' c':Nat),Ss W' A' zs→n'=zs.length→n'≤c'→Calls Tryz.prog 31 #[.slice A' n' c'] W' (StrR W' S)):=fun W' A' n' c' h1 h2 h3=>hS ▸ wjoin_any h1 h2 h3 (by omega) hJ
 have CA:Hid (Calls Tryz.prog 64 #[.slice none 0 0,.slice A n c] W1 (AppR W1 xs)):=C1.out W1 none 0 0 [] (Below.refl _ _) rfl (by omega) (World.ownsRow_nil _ _ _ _)
 have HZS:=khide hzs
 obtain ⟨o,ho⟩:∃ o,o=1:=⟨_,rfl⟩
 have CO:Hid (∀ W:World,Calls Tryz.prog 66 #[.int .u64 1] W (NumR W o)):=fun W=>ho ▸ of_h (v:=1) (by omega)
 obtain ⟨q,hq⟩:∃ q,cmpI v o=q:=⟨_,rfl⟩
 have CM:Hid (∀ (W:World) (A':Option Addr) (c':Nat),Nm W C e f v→Nm W A' (dl o) c' o→Calls Tryz.prog 65 #[.agg #[.slice C e f],.agg #[.slice A' (dl o) c']] W (IntPost W q)):=fun W A' c' h1 h2=>cmp_h h1 h2 hq
 have q1:(q != 0)=true:=by rw [← hq,ho];exact cmpI_ne hv
 have q2:(q == 0)=false:=by have:=q1;simpa [bne] using this
 have CT:Hid (∀ W:World,Nm W C e f v→Calls Tryz.prog 43 #[.agg #[.slice C e f]] W (TextR W (nuT v))):=fun W h=>text_r h (nuT_data v)
 have dm:decide ((0:Int) < (m:Int))=true:=decide_eq_true (by omega)
 have dn:decide (0 < m)=true:=decide_eq_true (by omega)
 have dq:0 < m:=by omega
 obtain ⟨i0,hi,hz0,hz1,hz2⟩:=info_parts hinfoStr
 have J0:=khide hi;have Y0:=khide hz0;have Y1:=khide hz1;have Y2:=khide hz2
 have HW:=khide hW1
 clear hi hz0 hz1 hz2 hW1 hzs hJ hS ho hq hv hm0 hb0
 have ha_0:=HA1.c0;have ha_1:=HA1.c1;have ha_2:=HA1.c2;have ha_l:=HA1.lt
 go_enter Tryz.func37,Tryz.ntmps37
 go_upto_region 1 with fail
 rw [← HW.out]
 go_upto_region 2 with (first | (go_at_call 64;(with_reducible refine (CA.out).mono ?_);rintro e w2 ⟨A2,c2,z2,hz2,rfl,HO2,HB2⟩;obtain rfl:=hz2.out;clear ha_0 ha_1 ha_2 ha_l;have HA2:=HA1.up HB2;have ha_0:=HA2.c0;have ha_1:=HA2.c1;have ha_2:=HA2.c2;have ha_l:=HA2.lt) | fail)
 replace HO2:Hid (w2.ownsRow W1.heap.size 9 1 (.slice A2 xs.length c2) xs.length (xs.map Value.string)):=HO2
 have HC2:Nm w2 C e f v:=HC.up HB2
 have HS2:Hid (W1.heap.size≤w2.heap.size):=HB2.out.size
 replace HA2:=HA2.dr
 replace HB2:Hid (Below W1.heap.size W1 w2.drew):=HB2.out.drew
 replace HC2:=HC2.dr
 replace HO2:Hid (w2.drew.ownsRow W1.heap.size 9 1 (.slice A2 xs.length c2) xs.length (xs.map Value.string)):=HO2
 replace HS2:Hid (W1.heap.size≤w2.drew.heap.size):=HS2
 clear ha_0 ha_1 ha_2 ha_l
 refine wp_region_held_drew (S:=fun w'=>w'.cell? ⟨w.heap.size,2,none⟩=some (.slice C e f)) (by kernel_rfl) ?_ (fun hHeld=>?_)
 ·exact HA2.c2
 generalize w2.drew=Wd at *
 refine tq 0 ?_
 refine tq 1 ?_
 (refine sk 2 (fun K hK=>?_);go_simp;(go_at_call 66;(with_reducible refine (CO.out _).mono ?_);rintro e w3 ⟨A3,c3,rfl,HN,hb3⟩;replace HA2:=HA2.up hb3;replace HC2:=HC2.up hb3;replace HO2:=khide (own_up HO2.out hb3);replace HB2:=khide (HB2.out.trans (hb3.out.mono HS2.out));replace HS2:=khide HB2.out.size);(try (go_wp2_with fail));refine hK.out _ _ ?_ (fun hHeld=>?_);(focus ((try dsimp only);(with_reducible exact HA2.c2)));clear hK K;(try simp only [lay7,Act.put]))
 (refine sk 3 (fun K hK=>?_);go_simp;(go_at_call 65;(with_reducible refine (CM.out _ _ _ HC2 HN).mono ?_);rintro e w4 ⟨rfl,hb4⟩;replace HA2:=HA2.up hb4;replace HC2:=HC2.up hb4;replace HO2:=khide (own_up HO2.out hb4);replace HB2:=khide (HB2.out.trans (hb4.out.mono HS2.out));replace HS2:=khide HB2.out.size);(try (go_wp2_with fail));refine hK.out _ _ ?_ (fun hHeld=>?_);(focus ((try dsimp only);(with_reducible exact HA2.c2)));clear hK K;(try simp only [lay7,Act.put]))
 refine tq 4 ?_
 refine tq 5 ?_
 refine wpAnyH_done (by decide +kernel) ?_ _
 have ha_0:=HA2.c0;have ha_1:=HA2.c1;have ha_2:=HA2.c2;have ha_l:=HA2.lt
 have HO4:=HO2;have HB4:=HB2;have HS4:=HS2;have HC4:=HC2
 clear HO2 HB2 HS2 HC2 HC
 have HC4X:Hid (∀ W,Hid (Below W1.heap.size W1 W)→Nm W C e f v):=HC1X
 clear HC4
 go_wp2_with (first | (at_builtin;refine wpList_append_own _ rfl (.tmp 20) (.tmp 21) 60 rfl W1.heap.size 9 i0 (.string ByteArray.empty) 1 16 Tryz.underlying60 J0.out Y0.out Y1.out Y2.out rfl (by decide) _ _ _ rfl (HO4.out.alloc _) ⟨w4.heap.size,0,none⟩ 1 1 [.string ⟨#[112,101,114]⟩] rfl rfl (at_news (at_new0 _ _ _)) (one_str _) (by simp only [maxLen];omega) (by omega) (Nat.le_trans HS4.out (by simp)) ?_;intro v5 w5 ho hg hn1;clear hn1;obtain ⟨A5,c5,rfl,_⟩:=own_slice ho;have HB5:Hid (Below W1.heap.size W1 w5):=grown_on HB4 HS4.out HO4.out hg;have HS5:Hid (W1.heap.size≤w5.heap.size):=HB5.out.size;have HO5:=khide ho;clear ho hg;clear ha_0 ha_1 ha_2 ha_l;have HA5:=HA1.up HB5;have ha_0:=HA5.c0;have ha_1:=HA5.c1;have ha_2:=HA5.c2;have ha_l:=HA5.lt;have HC5:Nm w5 C e f v:=HC4X.out w5 HB5) | (go_at_call 43;(with_reducible refine (CT.out _ HC5).mono ?_);rintro e w6 ⟨rfl,hb6⟩;have HB6:Hid (Below W1.heap.size W1 w6):=HB5.out.trans (hb6.out.mono HS5.out);have HS6:Hid (W1.heap.size≤w6.heap.size):=HB6.out.size;have HO6:=khide (own_up HO5.out hb6);clear ha_0 ha_1 ha_2 ha_l;have HA6:=HA1.up HB6;have ha_0:=HA6.c0;have ha_1:=HA6.c1;have ha_2:=HA6.c2;have ha_l:=HA6.lt) | (at_builtin;refine wpList_append_own _ rfl (.tmp 24) (.tmp 28) 60 rfl W1.heap.size 9 i0 (.string ByteArray.empty) 1 16 Tryz.underlying60 J0.out Y0.out Y1.out Y2.out rfl (by decide) _ _ _ rfl (HO6.out.alloc _) ⟨w6.heap.size,0,none⟩ 1 1 [.string (nuT v)] rfl rfl (at_news (at_new0 _ _ _)) (one_str _) (by simp only [maxLen];omega) (by omega) (Nat.le_trans HS6.out (by simp)) ?_;intro v7 w7 ho hg hn1;clear hn1;obtain ⟨A7,c7,rfl,_⟩:=own_slice ho;have HB7:Hid (Below W1.heap.size W1 w7):=grown_on HB6 HS6.out HO6.out hg;have HS7:Hid (W1.heap.size≤w7.heap.size):=HB7.out.size;have HO7:=khide ho;clear ho hg;clear ha_0 ha_1 ha_2 ha_l;have HA7:=HA1.up HB7;have ha_0:=HA7.c0;have ha_1:=HA7.c1;have ha_2:=HA7.c2;have ha_l:=HA7.lt) | (go_at_call 64;(with_reducible refine (C2.out _ _ _ _ (xs ++ [perB] ++ [nuT v]) HB7 (by simp) (by omega) (by have h9:=HO7;simpa [perB] using h9)).mono ?_);rintro e w8 ⟨A8,c8,z8,hz8,rfl,HO8,HB8⟩) | (go_at_call 31;(with_reducible refine (CJ.out _ _ _ _ (ss_own' HO8.out (by rw [HZS.out]) (by rw [HZS.out];exact hz8.out)) (by rw [HZS.out];exact hz8.out) (own_cap HO8.out)).mono ?_);rintro e w9 ⟨rfl,hb9⟩) | fail)
 go_ret
 exact ⟨rfl,(HB1.up (HB8.out.trans (hb9.out.mono HB8.out.size)))⟩
end
end Go.Proofs.YtfflmmbhpchloaaGreatDoor
end
