/- Each theorem here says its own conditions. -/
import Derived.Test.YtfflmmbhpchloaaGreatDoorJb
set_option maxRecDepth 100000
set_option maxHeartbeats 16000000
section
open Go.RowKit
namespace Go.Proofs.YtfflmmbhpchloaaGreatDoor
theorem atomsL_pos {names ps a:List ByteArray} {r:List AL} (h:atomsL names ps a=some r) (ha:a ≠ []):0 < r.length:=by
 cases a with
 | nil=>exact absurd rfl ha
 | cons u l =>
   by_cases e:(parseA names ps (u :: l)).ok=true
   ·rw [atomsL_more e] at h
    cases hh:atomsL names ps ((u :: l).drop (parseA names ps (u :: l)).t) with
    | none=>rw [hh] at h;cases h
    | some r'=>rw [hh] at h;injection h with h;rw [← h];simp
   ·rw [atomsL_bad (by simp) (by simpa using e)] at h;cases h
def PartP (W:World) (r:Option PL) (e:Ending) (w':World):Prop:=match r with
 | none=>∃ A1 n1 c1 A2 n2 c2 A3 n3 c3,e = .returned (.tuple #[.agg #[.slice A1 n1 c1,.slice A2 n2 c2,.slice A3 n3 c3],.bool false])∧Bel W w'
 | some p=>∃ v1 v2 v3,e = .returned (.tuple #[.agg #[v1,v2,v3],.bool true])∧Q1 w' v1 v2 v3 (ofP p)∧Bel W w'
abbrev PDen (w:World) (A B:Option Addr) (n c m d:Nat) (l:List ByteArray) (res:Option (List AL)) (v:Nat):Prop :=
 ∀ (W:World) (D:Option Addr) (j g:Nat),Bel w W→Ss W D l→j=l.length→j≤g→Calls Tryz.prog 98 #[.agg #[.slice A n c,.slice B m d],.slice D j g] W (DenG W res v)
def oneD (r:Option (List AL)):Option PL:=match r with
 | none=>none
 | some r=>if r.length≤8 then some (r,[],oneB) else none
def twoD (r s:Option (List AL)) (x:ByteArray):Option PL:=match r with
 | none=>none
 | some r=>match s with
   | none=>none
   | some s=>if r.length + s.length≤8 then some (r,s,x) else none
section
variable {A B D:Option Addr} {n c m d j g:Nat} {names ps l:List ByteArray} {w:World}
theorem ppart_many {css:List (List ByteArray)} (h2:Ss w D l) (hj:j=l.length) (hjl:j≤1000000) (hc:cutBy perB l=css) (hm:2 < css.length) :
 Calls Tryz.prog 58 #[.agg #[.slice A n c,.slice B m d],.slice D j g] w (PartP w (none)):=by
 obtain ⟨W1,hW1⟩:∃ X,X=(w.alloc (.cells #[.slice A n c,.slice B m d] 62)).alloc (.cells #[.slice none 0 0,.slice none 0 0,.slice none 0 0] 44):=⟨_,rfl⟩
 have HK:At W1 w.heap.size [.slice A n c,.slice B m d]:=by rw [hW1];exact (at_new0 _ _ _).al _
 have HR:At W1 (w.heap.size + 1) [.slice none 0 0,.slice none 0 0,.slice none 0 0]:=by rw [hW1];exact at_new1 _ _ _ _
 have HB:Bel w W1:=by rw [hW1];exact ((Bel.refl w).al _).al _
 have HB0:Hid (Below w.heap.size w W1):=HB
 have CC:Hid (Calls Tryz.prog 57 #[.slice D j g,.string ⟨#[112,101,114]⟩] W1 (ListsC W1 (css))):=hc ▸ wcut_any (t:=perB) (h2.up HB0) hj hjl
 have d0:decide ((2:Int) < (css.length:Int))=true:=decide_eq_true (by omega)
 have d1:decide (2 < css.length)=true:=decide_eq_true (by omega)
 have HW:=khide hW1
 clear hW1 h2 hj hjl hc HB0
 go_enter Tryz.func58,Tryz.ntmps58
 go_upto_region 1 with fail
 rw [← HW.out]
 have hr_f0:=HR.f0;have hr_f1:=HR.f1;have hr_f2:=HR.f2;have hr_0:=HR.c0;have hr_1:=HR.c1;have hr_2:=HR.c2;have hr_l:=HR.lt
 go_wp2_with (first | (go_at_call 57;(with_reducible refine (CC.out).mono ?_);rintro e w2 ⟨ad,cc,rfl,hss,hcap,hb2⟩;replace HK:=HK.up hb2;replace HR:=HR.up hb2;replace HB:=HB.up hb2;clear hr_f0 hr_f1 hr_f2 hr_0 hr_1 hr_2 hr_l;have hr_f0:=HR.f0;have hr_f1:=HR.f1;have hr_f2:=HR.f2;have hr_0:=HR.c0;have hr_1:=HR.c1;have hr_2:=HR.c2;have hr_l:=HR.lt) | fail)
 refine bodyPost_ret (v:=.tuple #[.agg #[.slice none 0 0,.slice none 0 0,.slice none 0 0],.bool false]) (by simp [results,Tryz.results58,go_sem,hr_0,hr_1,hr_2,hr_l]) rfl ⟨_,_,_,_,_,_,_,_,_,rfl,kbelow3 HB (Nat.le_succ _) _ _ _⟩
theorem ppart_last1  (h2:Ss w D l) (hj:j=l.length) (hjl:j≤1000000) (hc:cutBy perB l=[[]]) :
 Calls Tryz.prog 58 #[.agg #[.slice A n c,.slice B m d],.slice D j g] w (PartP w (none)):=by
 obtain ⟨W1,hW1⟩:∃ X,X=(w.alloc (.cells #[.slice A n c,.slice B m d] 62)).alloc (.cells #[.slice none 0 0,.slice none 0 0,.slice none 0 0] 44):=⟨_,rfl⟩
 have HK:At W1 w.heap.size [.slice A n c,.slice B m d]:=by rw [hW1];exact (at_new0 _ _ _).al _
 have HR:At W1 (w.heap.size + 1) [.slice none 0 0,.slice none 0 0,.slice none 0 0]:=by rw [hW1];exact at_new1 _ _ _ _
 have HB:Bel w W1:=by rw [hW1];exact ((Bel.refl w).al _).al _
 have HB0:Hid (Below w.heap.size w W1):=HB
 have CC:Hid (Calls Tryz.prog 57 #[.slice D j g,.string ⟨#[112,101,114]⟩] W1 (ListsC W1 ([[]]))):=hc ▸ wcut_any (t:=perB) (h2.up HB0) hj hjl
 have HW:=khide hW1
 clear hW1 h2 hj hjl hc HB0
 go_enter Tryz.func58,Tryz.ntmps58
 go_upto_region 1 with fail
 rw [← HW.out]
 go_upto_region 2 with (first | (go_at_call 57;(with_reducible refine (CC.out).mono ?_);rintro e w2 ⟨ad,cc,rfl,hss,hcap,hb2⟩;replace HK:=HK.up hb2;replace HR:=HR.up hb2;replace HB:=HB.up hb2) | fail)
 obtain ⟨ad',D0,c0,e0,hab,hc0,hs0,-⟩:=hss.out.at_ (k:=0) (by simp)
 injection e0 with e0
 subst e0
 have hcp:([]:List ByteArray).length≤c0:=hcap 0 _ _ _ (by simp) hc0
 rw [addr_zero] at hc0
 replace hc0:w2.cell? ad=some (.slice D0 ([]:List ByteArray).length c0):=hc0
 have HS0:Ss w2 D0 []:=hs0
 simp only [List.length_nil] at hc0
 have hr_f0:=HR.f0;have hr_f1:=HR.f1;have hr_f2:=HR.f2;have hr_0:=HR.c0;have hr_1:=HR.c1;have hr_2:=HR.c2;have hr_l:=HR.lt
 go_wp2_with fail
 refine bodyPost_ret (v:=.tuple #[.agg #[.slice none 0 0,.slice none 0 0,.slice none 0 0],.bool false]) (by simp [results,Tryz.results58,go_sem,hr_0,hr_1,hr_2,hr_l]) rfl ⟨_,_,_,_,_,_,_,_,_,rfl,kbelow3 HB (Nat.le_succ _) _ _ _⟩
theorem ppart_last2 {a:List ByteArray} (h2:Ss w D l) (hj:j=l.length) (hjl:j≤1000000) (hc:cutBy perB l=[a,[]]) :
 Calls Tryz.prog 58 #[.agg #[.slice A n c,.slice B m d],.slice D j g] w (PartP w (none)):=by
 obtain ⟨W1,hW1⟩:∃ X,X=(w.alloc (.cells #[.slice A n c,.slice B m d] 62)).alloc (.cells #[.slice none 0 0,.slice none 0 0,.slice none 0 0] 44):=⟨_,rfl⟩
 have HK:At W1 w.heap.size [.slice A n c,.slice B m d]:=by rw [hW1];exact (at_new0 _ _ _).al _
 have HR:At W1 (w.heap.size + 1) [.slice none 0 0,.slice none 0 0,.slice none 0 0]:=by rw [hW1];exact at_new1 _ _ _ _
 have HB:Bel w W1:=by rw [hW1];exact ((Bel.refl w).al _).al _
 have HB0:Hid (Below w.heap.size w W1):=HB
 have CC:Hid (Calls Tryz.prog 57 #[.slice D j g,.string ⟨#[112,101,114]⟩] W1 (ListsC W1 ([a,[]]))):=hc ▸ wcut_any (t:=perB) (h2.up HB0) hj hjl
 have HW:=khide hW1
 clear hW1 h2 hj hjl hc HB0
 go_enter Tryz.func58,Tryz.ntmps58
 go_upto_region 1 with fail
 rw [← HW.out]
 go_upto_region 2 with (first | (go_at_call 57;(with_reducible refine (CC.out).mono ?_);rintro e w2 ⟨ad,cc,rfl,hss,hcap,hb2⟩;replace HK:=HK.up hb2;replace HR:=HR.up hb2;replace HB:=HB.up hb2) | fail)
 obtain ⟨ad2,D1,c1,e1,hab1,hc1,hs1,-⟩:=hss.out.at_ (k:=1) (by simp)
 injection e1 with e1
 subst e1
 have hcp1:([]:List ByteArray).length≤c1:=hcap 1 _ _ _ (by simp) hc1
 rw [← add_one'] at hc1
 replace hc1:w2.cell? ⟨ad.block,ad.off + 1,none⟩=some (.slice D1 ([]:List ByteArray).length c1):=hc1
 have HS1:Ss w2 D1 []:=hs1
 simp only [List.length_nil] at hc1
 have hr_f0:=HR.f0;have hr_f1:=HR.f1;have hr_f2:=HR.f2;have hr_0:=HR.c0;have hr_1:=HR.c1;have hr_2:=HR.c2;have hr_l:=HR.lt
 go_wp2_with fail
 refine bodyPost_ret (v:=.tuple #[.agg #[.slice none 0 0,.slice none 0 0,.slice none 0 0],.bool false]) (by simp [results,Tryz.results58,go_sem,hr_0,hr_1,hr_2,hr_l]) rfl ⟨_,_,_,_,_,_,_,_,_,rfl,kbelow3 HB (Nat.le_succ _) _ _ _⟩
theorem q1_put3 {W:World} {p:Nat} {v1 v2 v3:Value} {q:QL} (h:At W p [.slice none 0 0,.slice none 0 0,.slice none 0 0]) (hq:Q1 W v1 v2 v3 q) (x y z:Value) (hx:∃ A n c,x = .slice A n c:=by exact ⟨_,_,_,rfl⟩) (hy:∃ A n c,y = .slice A n c:=by exact ⟨_,_,_,rfl⟩):Q1 (((W.setCell ⟨p,0,none⟩ x).setCell ⟨p,1,none⟩ y).setCell ⟨p,2,none⟩ z) v1 v2 v3 q:=by
 have h1:=hq.setn h.c0 x
 have k1:=h.put (i:=0) (by simp) x
 have h2:=h1.setn (p:=⟨p,1,none⟩) k1.c1 y
 have k2:=k1.put (i:=1) (by simp) y
 exact h2.setn (p:=⟨p,2,none⟩) k2.c2 z
theorem ppart_one {a:List ByteArray} {res1:Option (List AL)} (hl1:∀ r,res1=some r→r.length≤1000000)  (hne:a ≠ []) (CA:Hid (PAtoms w A B n c m d a res1)) (h2:Ss w D l) (hj:j=l.length) (hjl:j≤1000000) (hc:cutBy perB l=[a]) :
 Calls Tryz.prog 58 #[.agg #[.slice A n c,.slice B m d],.slice D j g] w (PartP w (oneD res1)):=by
 obtain ⟨W1,hW1⟩:∃ X,X=(w.alloc (.cells #[.slice A n c,.slice B m d] 62)).alloc (.cells #[.slice none 0 0,.slice none 0 0,.slice none 0 0] 44):=⟨_,rfl⟩
 have HK:At W1 w.heap.size [.slice A n c,.slice B m d]:=by rw [hW1];exact (at_new0 _ _ _).al _
 have HR:At W1 (w.heap.size + 1) [.slice none 0 0,.slice none 0 0,.slice none 0 0]:=by rw [hW1];exact at_new1 _ _ _ _
 have HB:Bel w W1:=by rw [hW1];exact ((Bel.refl w).al _).al _
 have HB0:Hid (Below w.heap.size w W1):=HB
 have CC:Hid (Calls Tryz.prog 57 #[.slice D j g,.string ⟨#[112,101,114]⟩] W1 (ListsC W1 ([a]))):=hc ▸ wcut_any (t:=perB) (h2.up HB0) hj hjl
 have q0:((a.length:Int) == 0)=false:=by rw [beq_eq_false_iff_ne];have:=List.length_pos_iff.2 hne;omega
 have q1:¬ a.length=0:=by have:=List.length_pos_iff.2 hne;omega
 have q2:¬ a=[]:=hne
 have HL1:=khide hl1
 clear hl1
 obtain ⟨o,ho⟩:∃ o,o=1:=⟨_,rfl⟩
 have CO:Hid (∀ W:World,Calls Tryz.prog 66 #[.int .u64 1] W (NumR W o)):=fun W=>ho ▸ of_h (v:=1) (by omega)
 have HO1:=khide ho
 clear ho
 have HW:=khide hW1
 clear hW1 h2 hj hjl hc HB0
 go_enter Tryz.func58,Tryz.ntmps58
 go_upto_region 1 with fail
 rw [← HW.out]
 go_upto_region 2 with (first | (go_at_call 57;(with_reducible refine (CC.out).mono ?_);rintro e w2 ⟨ad,cc,rfl,hss,hcap,hb2⟩;replace HK:=HK.up hb2;replace HR:=HR.up hb2;replace HB:=HB.up hb2) | fail)
 obtain ⟨ad',D0,c0,e0,hab,hc0,hs0,-⟩:=hss.out.at_ (k:=0) (by simp)
 injection e0 with e0
 subst e0
 have hcp:a.length≤c0:=hcap 0 _ _ _ (by simp) hc0
 rw [addr_zero] at hc0
 replace hc0:w2.cell? ad=some (.slice D0 a.length c0):=hc0
 have HS0:Ss w2 D0 a:=hs0
 go_upto_region 4 with fail
 replace HK:=HK.dr;replace HR:=HR.dr;replace HB:=HB.dr;replace HS0:=HS0.dr
 refine wp_region_held_drew (S:=fun w'=>w'.cell? ⟨w.heap.size,0,none⟩=some (.slice A n c)∧w'.cell? ⟨w.heap.size,1,none⟩=some (.slice B m d)∧w'.cell? ad=some (.slice D0 a.length c0)) (by kernel_rfl) ?_ (fun hHeld=>?_)
 ·exact ⟨HK.c0,HK.c1,hc0⟩
 have hadl:ad.block < w2.drew.heap.size:=hab
 have hcell:w2.drew.cell? ad=some (.slice D0 a.length c0):=hc0
 clear hc0 hss hcap hb2 CC HW
 generalize w2.drew=Wd at *
 refine tq 0 ?_
 refine tq 1 ?_
 refine tq 2 ?_
 refine tq 3 ?_
 (refine sk 4 (fun K hK=>?_);go_simp;(go_at_call 97;(with_reducible refine (CA.out _ _ _ _ HB HS0 rfl hcp).mono ?_);rintro e w4 h;obtain ⟨A1,n1,k1,ok1,rfl,HA1,hb⟩:=atoms_g h;clear h;replace HK:=HK.up hb.hid;replace HR:=HR.up hb.hid;replace HB:=HB.up hb.hid;replace hcell:w4.cell? ad=some (.slice D0 a.length c0):=(hb.cell hadl).trans hcell);(try (go_wp2_with fail));refine hK.out _ _ ?_ (fun hHeld=>?_);(focus ((try dsimp only);(with_reducible exact ⟨HK.c0,HK.c1,hcell⟩)));clear hK K;(try simp only [lay7,Act.put]))
 refine tq 5 ?_
 refine tq 6 ?_
 refine tq 7 ?_
 refine tq 8 ?_
 refine tq 9 ?_
 refine wpAnyH_done (by decide +kernel) ?_ _
 cases ok1 with
 | false =>
   have hr_f0:=HR.f0;have hr_f1:=HR.f1;have hr_f2:=HR.f2;have hr_0:=HR.c0;have hr_1:=HR.c1;have hr_2:=HR.c2;have hr_l:=HR.lt
   go_wp2_with fail
   refine bodyPost_ret (v:=.tuple #[.agg #[.slice none 0 0,.slice none 0 0,.slice none 0 0],.bool false]) (by simp [results,Tryz.results58,go_sem,hr_0,hr_1,hr_2,hr_l]) rfl ?_
   obtain rfl:res1=none:=by have h1:=HA1.out.1;cases res1 with | none=>rfl | some r=>cases h1
   exact ⟨_,_,_,_,_,_,_,_,_,rfl,kbelow3 HB (Nat.le_succ _) _ _ _⟩
 | true =>
   go_upto_region 8 with (first | (go_at_call 66;(with_reducible refine (CO.out _).mono ?_);rintro e w5 ⟨A3,c3,rfl,HN,hb5⟩;replace HK:=HK.up hb5;replace HR:=HR.up hb5;replace HB:=HB.up hb5;replace HA1:=HA1.up hb5) | fail)
   have hkl:=HK.lt
   have hrl:=HR.lt
   refine kwp_named ?_
   intro W6 hW6
   have HP:At W6 w5.heap.size [.slice A1 n1 k1,.slice none 0 0,.slice A3 (dl o) c3]:=by rw [hW6];exact at_new0 _ _ _
   replace HN:Nm W6 A3 (dl o) c3 o:=by rw [hW6];exact HN.al _
   replace HA1:GA W6 res1 A1 n1 k1 true:=by rw [hW6];exact HA1.to fun _ h=>h.al _
   replace HK:At W6 w.heap.size [.slice A n c,.slice B m d]:=by rw [hW6];exact HK.al _
   replace HR:At W6 (w.heap.size + 1) [.slice none 0 0,.slice none 0 0,.slice none 0 0]:=by rw [hW6];exact HR.al _
   replace HB:Bel w W6:=by rw [hW6];exact HB.al _
   have hkp:w5.heap.size ≠ w.heap.size:=Nat.ne_of_gt hkl
   have hrp:w5.heap.size ≠ w.heap.size + 1:=Nat.ne_of_gt hrl
   have hpw:w.heap.size≤w5.heap.size:=Nat.le_of_lt hkl
   obtain ⟨pp,hpp⟩:∃ p,p=w5.heap.size:=⟨_,rfl⟩
   rw [← hpp] at HP hkp hrp hpw
   rw [← hpp]
   clear hW6 hpp hkl hrl hb hb5
   obtain ⟨r,hr⟩:=Option.isSome_iff_exists.1 HA1.out.1.symm
   have hnr:=(HA1.out.2 r hr).1
   have hn1:n1≤1000000:=by rw [hnr];exact HL1.out r hr
   obtain ⟨bl,hbl⟩:∃ b,decide (n1≤8)=b:=⟨_,rfl⟩
   have HBL:=khide hbl
   have e3:decide ((n1:Int)≤8)=bl:=by rw [← hbl];exact decide_eq_decide.2 (by omega)
   have e4:=hbl
   have e5:IntKind.i64.wrap (n1:Int)=(n1:Int):=by rw [IntKind.wrap_i64];omega
   clear hbl hn1 hnr
   have HRR:=khide hr
   clear hr
   go_upto_region 10 with fail
   replace HR:=HR.dr;replace HP:=HP.dr;replace HB:=HB.dr;replace HN:=HN.dr;replace HA1:=HA1.to fun _ h=>Cs.dr h
   refine wp_region_held_drew (S:=fun w'=>w'.cell? ⟨pp,0,none⟩=some (.slice A1 n1 k1)∧w'.cell? ⟨pp,1,none⟩=some (.slice none 0 0)∧w'.cell? ⟨pp,2,none⟩=some (.slice A3 (dl o) c3)) (by kernel_rfl) ?_ (fun hHeld=>?_)
   ·exact ⟨HP.c0,HP.c1,HP.c2⟩
   have hr_f0:=HR.f0;have hr_f1:=HR.f1;have hr_f2:=HR.f2;have hr_0:=HR.c0;have hr_1:=HR.c1;have hr_2:=HR.c2;have hr_l:=HR.lt
   have hrq:w.heap.size + 1 ≠ pp:=fun e=>hrp e.symm
   generalize W6.drew=Wd at *
   have KS:Hid (∀ x y z:Value,(((Wd.setCell ⟨w.heap.size + 1,0,none⟩ x).setCell ⟨w.heap.size + 1,1,none⟩ y).setCell ⟨w.heap.size + 1,2,none⟩ z).cell? ⟨pp,0,none⟩=some (.slice A1 n1 k1)∧(((Wd.setCell ⟨w.heap.size + 1,0,none⟩ x).setCell ⟨w.heap.size + 1,1,none⟩ y).setCell ⟨w.heap.size + 1,2,none⟩ z).cell? ⟨pp,1,none⟩=some (.slice none 0 0)∧(((Wd.setCell ⟨w.heap.size + 1,0,none⟩ x).setCell ⟨w.heap.size + 1,1,none⟩ y).setCell ⟨w.heap.size + 1,2,none⟩ z).cell? ⟨pp,2,none⟩=some (.slice A3 (dl o) c3)):=fun x y z=>by
    have h5:=((HP.far hrq (i:=0) x).far hrq (i:=1) y).far hrq (i:=2) z
    exact ⟨h5.c0,h5.c1,h5.c2⟩
   refine tq 0 ?_
   refine tq 1 ?_
   refine tq 2 ?_
   refine tq 3 ?_
   refine tq 4 ?_
   refine tq 5 ?_
   refine tq 6 ?_
   refine tq 7 ?_
   refine tq 8 ?_
   refine tq 9 ?_
   refine tq 10 ?_
   refine tq 11 ?_
   (refine sk 12 (fun K hK=>?_);go_simp;refine hK.out _ _ ?_ (fun hHeld=>?_);(focus ((try dsimp only);(first | (with_reducible exact ⟨HP.c0,HP.c1,HP.c2⟩) | exact KS.out _ _ _)));clear hK K;(try simp only [lay7,Act.put]))
   refine tq 13 ?_
   refine wpAnyH_done (by decide +kernel) ?_ _
   go_wp2_with fail
   refine bodyPost_ret (v:=.tuple #[.agg #[.slice A1 n1 k1,.slice none 0 0,.slice A3 (dl o) c3],.bool bl]) (by simp [results,Tryz.results58,go_sem,hr_0,hr_1,hr_2,hr_l]) rfl ?_
   obtain rfl:=HRR.out
   obtain ⟨hnr,hA,hk⟩:=HA1.out.2 r rfl
   subst hnr
   show PartP w (if r.length≤8 then some (r,[],oneB) else none) _ _
   have hbl:=HBL.out
   by_cases h8:r.length≤8
   ·rw [if_pos h8]
    obtain rfl:true=bl:=by rw [← hbl];exact (decide_eq_true h8).symm
    refine ⟨_,_,_,rfl,?_,kbelow3 HB (Nat.le_succ _) _ _ _⟩
    have h9:Q1 Wd (.slice A1 r.length k1) (.slice none 0 0) (.slice A3 (dl o) c3) (r,[],digs W32 o):=q1_mk hA hk (Cs.nil (A:=none)) (Nat.le_refl 0) HN
    have e9:ofP (r,[],oneB)=(r,[],digs W32 o):=by unfold ofP;rw [nuOf_one,HO1.out]
    rw [e9]
    exact q1_put3 HR h9 _ _ _
   ·rw [if_neg h8]
    obtain rfl:false=bl:=by rw [← hbl];exact (decide_eq_false h8).symm
    exact ⟨_,_,_,_,_,_,_,_,_,rfl,kbelow3 HB (Nat.le_succ _) _ _ _⟩
theorem ppart_two {a d':List ByteArray} {res1:Option (List AL)} (hl1:∀ r,res1=some r→r.length≤1000000) {res2:Option (List AL)} {v:Nat} (hl2:∀ r,res2=some r→r.length≤1000000) (CD:Hid (PDen w A B n c m d d' res2 v)) {x9:ByteArray} (hv9:nuOf x9=v) (hne:d' ≠ []) (CA:Hid (PAtoms w A B n c m d a res1)) (h2:Ss w D l) (hj:j=l.length) (hjl:j≤1000000) (hc:cutBy perB l=[a,d']) :
 Calls Tryz.prog 58 #[.agg #[.slice A n c,.slice B m d],.slice D j g] w (PartP w (twoD res1 res2 x9)):=by
 obtain ⟨W1,hW1⟩:∃ X,X=(w.alloc (.cells #[.slice A n c,.slice B m d] 62)).alloc (.cells #[.slice none 0 0,.slice none 0 0,.slice none 0 0] 44):=⟨_,rfl⟩
 have HK:At W1 w.heap.size [.slice A n c,.slice B m d]:=by rw [hW1];exact (at_new0 _ _ _).al _
 have HR:At W1 (w.heap.size + 1) [.slice none 0 0,.slice none 0 0,.slice none 0 0]:=by rw [hW1];exact at_new1 _ _ _ _
 have HB:Bel w W1:=by rw [hW1];exact ((Bel.refl w).al _).al _
 have HB0:Hid (Below w.heap.size w W1):=HB
 have CC:Hid (Calls Tryz.prog 57 #[.slice D j g,.string ⟨#[112,101,114]⟩] W1 (ListsC W1 ([a,d']))):=hc ▸ wcut_any (t:=perB) (h2.up HB0) hj hjl
 have q0:((d'.length:Int) == 0)=false:=by rw [beq_eq_false_iff_ne];have:=List.length_pos_iff.2 hne;omega
 have q1:¬ d'.length=0:=by have:=List.length_pos_iff.2 hne;omega
 have q2:¬ d'=[]:=hne
 have HL1:=khide hl1
 have HL2:=khide hl2
 have HT:=khide hv9
 clear hl1 hl2 hv9
 obtain ⟨o,ho⟩:∃ o,o=1:=⟨_,rfl⟩
 have CO:Hid (∀ W:World,Calls Tryz.prog 66 #[.int .u64 1] W (NumR W o)):=fun W=>ho ▸ of_h (v:=1) (by omega)
 have HO1:=khide ho
 clear ho
 have HW:=khide hW1
 clear hW1 h2 hj hjl hc HB0
 go_enter Tryz.func58,Tryz.ntmps58
 go_upto_region 1 with fail
 rw [← HW.out]
 go_upto_region 2 with (first | (go_at_call 57;(with_reducible refine (CC.out).mono ?_);rintro e w2 ⟨ad,cc,rfl,hss,hcap,hb2⟩;replace HK:=HK.up hb2;replace HR:=HR.up hb2;replace HB:=HB.up hb2) | fail)
 obtain ⟨ad',D0,c0,e0,hab,hc0,hs0,-⟩:=hss.out.at_ (k:=0) (by simp)
 injection e0 with e0
 subst e0
 have hcp:a.length≤c0:=hcap 0 _ _ _ (by simp) hc0
 rw [addr_zero] at hc0
 replace hc0:w2.cell? ad=some (.slice D0 a.length c0):=hc0
 have HS0:Ss w2 D0 a:=hs0
 obtain ⟨ad2,D1,c1,e1,hab1,hc1,hs1,-⟩:=hss.out.at_ (k:=1) (by simp)
 injection e1 with e1
 subst e1
 have hcp1:d'.length≤c1:=hcap 1 _ _ _ (by simp) hc1
 rw [← add_one'] at hc1
 replace hc1:w2.cell? ⟨ad.block,ad.off + 1,none⟩=some (.slice D1 d'.length c1):=hc1
 have HS1:Ss w2 D1 d':=hs1
 go_upto_region 4 with fail
 replace HK:=HK.dr;replace HR:=HR.dr;replace HB:=HB.dr;replace HS0:=HS0.dr;replace HS1:=HS1.dr
 refine wp_region_held_drew (S:=fun w'=>w'.cell? ⟨w.heap.size,0,none⟩=some (.slice A n c)∧w'.cell? ⟨w.heap.size,1,none⟩=some (.slice B m d)∧w'.cell? ad=some (.slice D0 a.length c0)) (by kernel_rfl) ?_ (fun hHeld=>?_)
 ·exact ⟨HK.c0,HK.c1,hc0⟩
 have hadl:ad.block < w2.drew.heap.size:=hab
 have hcell:w2.drew.cell? ad=some (.slice D0 a.length c0):=hc0
 have hcell1:w2.drew.cell? ⟨ad.block,ad.off + 1,none⟩=some (.slice D1 d'.length c1):=hc1
 clear hc0 hss hcap hb2 CC HW hc1
 generalize w2.drew=Wd at *
 refine tq 0 ?_
 refine tq 1 ?_
 refine tq 2 ?_
 refine tq 3 ?_
 (refine sk 4 (fun K hK=>?_);go_simp;(go_at_call 97;(with_reducible refine (CA.out _ _ _ _ HB HS0 rfl hcp).mono ?_);rintro e w4 h;obtain ⟨A1,n1,k1,ok1,rfl,HA1,hb⟩:=atoms_g h;clear h;replace HK:=HK.up hb.hid;replace HR:=HR.up hb.hid;replace HB:=HB.up hb.hid;replace hcell:w4.cell? ad=some (.slice D0 a.length c0):=(hb.cell hadl).trans hcell;replace hcell1:w4.cell? ⟨ad.block,ad.off + 1,none⟩=some (.slice D1 d'.length c1):=(hb.cell (p:=⟨ad.block,ad.off + 1,none⟩) hadl).trans hcell1;replace HS1:=HS1.up hb.hid);(try (go_wp2_with fail));refine hK.out _ _ ?_ (fun hHeld=>?_);(focus ((try dsimp only);(with_reducible exact ⟨HK.c0,HK.c1,hcell⟩)));clear hK K;(try simp only [lay7,Act.put]))
 refine tq 5 ?_
 refine tq 6 ?_
 refine tq 7 ?_
 refine tq 8 ?_
 refine tq 9 ?_
 refine wpAnyH_done (by decide +kernel) ?_ _
 cases ok1 with
 | false =>
   have hr_f0:=HR.f0;have hr_f1:=HR.f1;have hr_f2:=HR.f2;have hr_0:=HR.c0;have hr_1:=HR.c1;have hr_2:=HR.c2;have hr_l:=HR.lt
   go_wp2_with fail
   refine bodyPost_ret (v:=.tuple #[.agg #[.slice none 0 0,.slice none 0 0,.slice none 0 0],.bool false]) (by simp [results,Tryz.results58,go_sem,hr_0,hr_1,hr_2,hr_l]) rfl ?_
   obtain rfl:res1=none:=by have h1:=HA1.out.1;cases res1 with | none=>rfl | some r=>cases h1
   exact ⟨_,_,_,_,_,_,_,_,_,rfl,kbelow3 HB (Nat.le_succ _) _ _ _⟩
 | true =>
   go_upto_region 8 with (first | (go_at_call 66;(with_reducible refine (CO.out _).mono ?_);rintro e w5 ⟨A3,c3,rfl,HN,hb5⟩;replace HK:=HK.up hb5;replace HR:=HR.up hb5;replace HB:=HB.up hb5;replace HA1:=HA1.up hb5) | fail)
   have hkl:=HK.lt
   have hrl:=HR.lt
   have had5:ad.block < w5.heap.size:=Nat.lt_of_lt_of_le hadl (Nat.le_trans hb.size hb5.out.size)
   have hcell5:w5.cell? ⟨ad.block,ad.off + 1,none⟩=some (.slice D1 d'.length c1):=(hb5.out.cell (p:=⟨ad.block,ad.off + 1,none⟩) (Nat.lt_of_lt_of_le hadl hb.size)).trans hcell1
   replace HS1:=HS1.up hb5
   refine kwp_named ?_
   intro W6 hW6
   have HP:At W6 w5.heap.size [.slice A1 n1 k1,.slice none 0 0,.slice A3 (dl o) c3]:=by rw [hW6];exact at_new0 _ _ _
   replace HN:Nm W6 A3 (dl o) c3 o:=by rw [hW6];exact HN.al _
   replace HA1:GA W6 res1 A1 n1 k1 true:=by rw [hW6];exact HA1.to fun _ h=>h.al _
   replace HK:At W6 w.heap.size [.slice A n c,.slice B m d]:=by rw [hW6];exact HK.al _
   replace HR:At W6 (w.heap.size + 1) [.slice none 0 0,.slice none 0 0,.slice none 0 0]:=by rw [hW6];exact HR.al _
   replace HB:Bel w W6:=by rw [hW6];exact HB.al _
   have hcell6:W6.cell? ⟨ad.block,ad.off + 1,none⟩=some (.slice D1 d'.length c1):=by rw [hW6];exact (World.cell?_alloc_lt _ _ (⟨ad.block,ad.off + 1,none⟩:Addr) had5).trans hcell5
   have had6:ad.block < W6.heap.size:=by rw [hW6];simp;omega
   replace HS1:Ss W6 D1 d':=by rw [hW6];exact HS1.al _
   have hap:w5.heap.size ≠ ad.block:=Nat.ne_of_gt had5
   clear hcell1 hcell5 had5 hcell
   have hkp:w5.heap.size ≠ w.heap.size:=Nat.ne_of_gt hkl
   have hrp:w5.heap.size ≠ w.heap.size + 1:=Nat.ne_of_gt hrl
   have hpw:w.heap.size≤w5.heap.size:=Nat.le_of_lt hkl
   obtain ⟨pp,hpp⟩:∃ p,p=w5.heap.size:=⟨_,rfl⟩
   rw [← hpp] at HP hkp hrp hpw hap
   rw [← hpp]
   clear hW6 hpp hkl hrl hb hb5
   go_upto_region 9 with fail
   replace HK:=HK.dr;replace HR:=HR.dr;replace HP:=HP.dr;replace HB:=HB.dr;replace HA1:=HA1.to fun _ h=>Cs.dr h;replace HS1:=HS1.dr
   refine wp_region_held_drew (S:=fun w'=>w'.cell? ⟨w.heap.size,0,none⟩=some (.slice A n c)∧w'.cell? ⟨w.heap.size,1,none⟩=some (.slice B m d)∧w'.cell? ⟨ad.block,ad.off + 1,none⟩=some (.slice D1 d'.length c1)) (by kernel_rfl) ?_ (fun hHeld=>?_)
   ·exact ⟨HK.c0,HK.c1,hcell6⟩
   replace had6:ad.block < W6.drew.heap.size:=had6
   replace hcell6:W6.drew.cell? ⟨ad.block,ad.off + 1,none⟩=some (.slice D1 d'.length c1):=hcell6
   have hp_f1:=HP.f1;have hp_f2:=HP.f2;have hp_1:=HP.c1;have hp_2:=HP.c2;have hp_l:=HP.lt
   generalize W6.drew=Wd at *
   refine tq 0 ?_
   refine tq 1 ?_
   refine tq 2 ?_
   refine tq 3 ?_
   (refine sk 4 (fun K hK=>?_);go_simp;(go_at_call 98;(with_reducible refine (CD.out _ _ _ _ HB HS1 rfl hcp1).mono ?_);rintro e w7 ⟨A4,n4,c4,A2,n2,k2,ok2,rfl,HD,hb⟩;replace HK:=HK.up hb.hid;replace HR:=HR.up hb.hid;replace HP:=HP.up hb.hid;replace HB:=HB.up hb.hid;replace HA1:=HA1.up hb.hid;replace hcell6:w7.cell? ⟨ad.block,ad.off + 1,none⟩=some (.slice D1 d'.length c1):=(hb.cell (p:=⟨ad.block,ad.off + 1,none⟩) had6).trans hcell6;have KS:Hid (∀ w':World,w'.heap.size=w7.heap.size→(∀ p:Addr,p.block ≠ pp→w'.cell? p=w7.cell? p)→w'.cell? ⟨w.heap.size,0,none⟩=some (.slice A n c)∧w'.cell? ⟨w.heap.size,1,none⟩=some (.slice B m d)∧w'.cell? ⟨ad.block,ad.off + 1,none⟩=some (.slice D1 d'.length c1)):=fun w' _ h=>⟨(h _ (Ne.symm hkp)).trans HK.c0,(h _ (Ne.symm hkp)).trans HK.c1,(h ⟨ad.block,ad.off + 1,none⟩ (Ne.symm hap)).trans hcell6⟩;clear hp_f1 hp_f2 hp_1 hp_2 hp_l;have hp_f1:=HP.f1;have hp_f2:=HP.f2;have hp_1:=HP.c1;have hp_2:=HP.c2;have hp_l:=HP.lt);(try (go_wp2_with fail));refine hK.out _ _ ?_ (fun hHeld=>?_);(focus ((try dsimp only);(first | (with_reducible exact ⟨HK.c0,HK.c1,hcell6⟩) | exact KS.out _ (by simp) (fun p hp=>World.cell?_setCell_far _ ⟨pp,_,none⟩ p _ (Ne.symm hp)) | exact KS.out _ (by simp) (fun p hp=>(World.cell?_setCell_far _ ⟨pp,_,none⟩ p _ (Ne.symm hp)).trans (World.cell?_setCell_far _ ⟨pp,_,none⟩ p _ (Ne.symm hp))))));clear hK K;(try simp only [lay7,Act.put]))
   refine tq 5 ?_
   refine tq 6 ?_
   refine tq 7 ?_
   refine tq 8 ?_
   refine tq 9 ?_
   (refine sk 10 (fun K hK=>?_);go_simp;refine hK.out _ _ ?_ (fun hHeld=>?_);(focus ((try dsimp only);(first | (with_reducible exact ⟨HK.c0,HK.c1,hcell6⟩) | exact KS.out _ (by simp) (fun p hp=>World.cell?_setCell_far _ ⟨pp,_,none⟩ p _ (Ne.symm hp)) | exact KS.out _ (by simp) (fun p hp=>(World.cell?_setCell_far _ ⟨pp,_,none⟩ p _ (Ne.symm hp)).trans (World.cell?_setCell_far _ ⟨pp,_,none⟩ p _ (Ne.symm hp))))));clear hK K;(try simp only [lay7,Act.put]))
   refine tq 11 ?_
   (refine sk 12 (fun K hK=>?_);go_simp;refine hK.out _ _ ?_ (fun hHeld=>?_);(focus ((try dsimp only);(first | (with_reducible exact ⟨HK.c0,HK.c1,hcell6⟩) | exact KS.out _ (by simp) (fun p hp=>World.cell?_setCell_far _ ⟨pp,_,none⟩ p _ (Ne.symm hp)) | exact KS.out _ (by simp) (fun p hp=>(World.cell?_setCell_far _ ⟨pp,_,none⟩ p _ (Ne.symm hp)).trans (World.cell?_setCell_far _ ⟨pp,_,none⟩ p _ (Ne.symm hp))))));clear hK K;(try simp only [lay7,Act.put]))
   refine tq 13 ?_
   refine wpAnyH_done (by decide +kernel) ?_ _
   go_upto_region 10 with fail
   refine kwp_named ?_
   intro W8 hW8
   have HP1:=HP.put (i:=2) (by simp) (.slice A4 n4 c4)
   replace HD:GD W8 res2 v A4 n4 c4 A2 n2 k2 ok2:=by rw [hW8];exact HD.to (fun _ h=>Cs.setn (Cs.setn h HP.c2 _) HP1.c1 _) (fun h=>Nm.setn (Nm.setn h HP.c2 not_w32 _) HP1.c1 not_w32 _)
   replace HA1:GA W8 res1 A1 n1 k1 true:=by rw [hW8];exact HA1.to fun _ h=>Cs.setn (Cs.setn h HP.c2 _) HP1.c1 _
   replace HP:At W8 pp [.slice A1 n1 k1,.slice A2 n2 k2,.slice A4 n4 c4]:=by rw [hW8];exact (HP.put (i:=2) (by simp) _).put (i:=1) (by simp) _
   replace HR:At W8 (w.heap.size + 1) [.slice none 0 0,.slice none 0 0,.slice none 0 0]:=by rw [hW8];exact (HR.far hrp _).far hrp _
   replace HB:Bel w W8:=by rw [hW8];exact Below.setCell (Below.setCell HB hpw _) hpw _
   clear hW8 hp_f1 hp_f2 hp_1 hp_2 hp_l KS hcell6 had6 hb HK HP1
   replace HR:=HR.dr;replace HP:=HP.dr;replace HB:=HB.dr;replace HD:=HD.to (fun _ h=>Cs.dr h) Nm.dr;replace HA1:=HA1.to fun _ h=>Cs.dr h
   obtain ⟨r,hr⟩:=Option.isSome_iff_exists.1 HA1.out.1.symm
   have hn1:n1≤1000000:=by rw [(HA1.out.2 r hr).1];exact HL1.out r hr
   have HRR:=khide hr
   clear hr
   refine wp_region_held_drew (S:=fun w'=>w'.cell? ⟨pp,0,none⟩=some (.slice A1 n1 k1)∧w'.cell? ⟨pp,1,none⟩=some (.slice A2 n2 k2)∧w'.cell? ⟨pp,2,none⟩=some (.slice A4 n4 c4)) (by kernel_rfl) ?_ (fun hHeld=>?_)
   ·exact ⟨HP.c0,HP.c1,HP.c2⟩
   have hr_f0:=HR.f0;have hr_f1:=HR.f1;have hr_f2:=HR.f2;have hr_0:=HR.c0;have hr_1:=HR.c1;have hr_2:=HR.c2;have hr_l:=HR.lt
   have hrq:w.heap.size + 1 ≠ pp:=fun e=>hrp e.symm
   generalize W8.drew=Wd at *
   have KS:Hid (∀ x y z:Value,(((Wd.setCell ⟨w.heap.size + 1,0,none⟩ x).setCell ⟨w.heap.size + 1,1,none⟩ y).setCell ⟨w.heap.size + 1,2,none⟩ z).cell? ⟨pp,0,none⟩=some (.slice A1 n1 k1)∧(((Wd.setCell ⟨w.heap.size + 1,0,none⟩ x).setCell ⟨w.heap.size + 1,1,none⟩ y).setCell ⟨w.heap.size + 1,2,none⟩ z).cell? ⟨pp,1,none⟩=some (.slice A2 n2 k2)∧(((Wd.setCell ⟨w.heap.size + 1,0,none⟩ x).setCell ⟨w.heap.size + 1,1,none⟩ y).setCell ⟨w.heap.size + 1,2,none⟩ z).cell? ⟨pp,2,none⟩=some (.slice A4 n4 c4)):=fun x y z=>by
    have h5:=((HP.far hrq (i:=0) x).far hrq (i:=1) y).far hrq (i:=2) z
    exact ⟨h5.c0,h5.c1,h5.c2⟩
   cases ok2 with
   | false =>
     refine tq 0 ?_
     refine tq 1 ?_
     refine tq 2 ?_
     refine pk 3 ?_
     refine pk 4 ?_
     refine pk 5 ?_
     refine pk 6 ?_
     refine pk 7 ?_
     refine pk 8 ?_
     refine pk 9 ?_
     refine pk 10 ?_
     refine tq 11 ?_
     (refine sk 12 (fun K hK=>?_);go_simp;refine hK.out _ _ ?_ (fun hHeld=>?_);(focus ((try dsimp only);(first | (with_reducible exact ⟨HP.c0,HP.c1,HP.c2⟩) | exact KS.out _ _ _)));clear hK K;(try simp only [lay7,Act.put]))
     refine tq 13 ?_
     refine wpAnyH_done (by decide +kernel) ?_ _
     go_wp2_with fail
     refine bodyPost_ret (v:=.tuple #[.agg #[.slice A1 n1 k1,.slice A2 n2 k2,.slice A4 n4 c4],.bool false]) (by simp [results,Tryz.results58,go_sem,hr_0,hr_1,hr_2,hr_l]) rfl ?_
     obtain rfl:=HRR.out
     obtain rfl:res2=none:=by have h1:=HD.out.1;cases res2 with | none=>rfl | some r=>cases h1
     exact ⟨_,_,_,_,_,_,_,_,_,rfl,kbelow3 HB (Nat.le_succ _) _ _ _⟩
   | true =>
     obtain ⟨s,hs⟩:=Option.isSome_iff_exists.1 HD.out.1.symm
     have hn2:n2≤1000000:=by rw [(HD.out.2 s hs).1];exact HL2.out s hs
     obtain ⟨bl,hbl⟩:∃ b,decide (n1 + n2≤8)=b:=⟨_,rfl⟩
     have HBL:=khide hbl
     have e3:decide ((n1:Int) + (n2:Int)≤8)=bl:=by rw [← hbl];exact decide_eq_decide.2 (by omega)
     have e4:=hbl
     have e5:IntKind.i64.wrap ((n1:Int) + (n2:Int))=(n1:Int) + (n2:Int):=by rw [IntKind.wrap_i64];omega
     have HSS:=khide hs
     clear hbl hn1 hn2 hs
     refine tq 0 ?_
     refine tq 1 ?_
     refine tq 2 ?_
     refine tq 3 ?_
     refine tq 4 ?_
     refine tq 5 ?_
     refine tq 6 ?_
     refine tq 7 ?_
     refine tq 8 ?_
     refine tq 9 ?_
     refine tq 10 ?_
     refine tq 11 ?_
     (refine sk 12 (fun K hK=>?_);go_simp;refine hK.out _ _ ?_ (fun hHeld=>?_);(focus ((try dsimp only);(first | (with_reducible exact ⟨HP.c0,HP.c1,HP.c2⟩) | exact KS.out _ _ _)));clear hK K;(try simp only [lay7,Act.put]))
     refine tq 13 ?_
     refine wpAnyH_done (by decide +kernel) ?_ _
     go_wp2_with fail
     refine bodyPost_ret (v:=.tuple #[.agg #[.slice A1 n1 k1,.slice A2 n2 k2,.slice A4 n4 c4],.bool bl]) (by simp [results,Tryz.results58,go_sem,hr_0,hr_1,hr_2,hr_l]) rfl ?_
     obtain rfl:=HRR.out
     obtain rfl:=HSS.out
     obtain ⟨hnr,hA,hk⟩:=HA1.out.2 r rfl
     obtain ⟨hns,hA2,hk2,hn4,hN⟩:=HD.out.2 s rfl
     subst hnr
     subst hns
     subst hn4
     show PartP w (if r.length + s.length≤8 then some (r,s,x9) else none) _ _
     have hbl:=HBL.out
     by_cases h8:r.length + s.length≤8
     ·rw [if_pos h8]
      obtain rfl:true=bl:=by rw [← hbl];exact (decide_eq_true h8).symm
      refine ⟨_,_,_,rfl,?_,kbelow3 HB (Nat.le_succ _) _ _ _⟩
      have h9:Q1 Wd (.slice A1 r.length k1) (.slice A2 s.length k2) (.slice A4 (dl v) c4) (r,s,digs W32 v):=q1_mk hA hk hA2 hk2 hN
      have e9:ofP (r,s,x9)=(r,s,digs W32 v):=by unfold ofP;rw [HT.out]
      rw [e9]
      exact q1_put3 HR h9 _ _ _
     ·rw [if_neg h8]
      obtain rfl:false=bl:=by rw [← hbl];exact (decide_eq_false h8).symm
      exact ⟨_,_,_,_,_,_,_,_,_,rfl,kbelow3 HB (Nat.le_succ _) _ _ _⟩
end
end Go.Proofs.YtfflmmbhpchloaaGreatDoor
end
