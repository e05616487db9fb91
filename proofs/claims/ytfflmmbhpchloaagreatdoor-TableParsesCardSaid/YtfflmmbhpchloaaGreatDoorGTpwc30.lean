/- Each theorem here says its own conditions. -/
import Derived.Test.YtfflmmbhpchloaaGreatDoorGTpwc29
set_option maxRecDepth 100000
set_option maxHeartbeats 16000000
section
open Go.RowKit
namespace Go.Proofs.YtfflmmbhpchloaaGreatDoor
theorem wp_named {P:Program} {c:Code} {Q:Exit→Act→World→Prop} {a:Act} {X:World} (h:∀ W',W'=X→Code.wp P c Q a W'):Code.wp P c Q a X:=h X rfl
section
variable {W:World} {b b' sg:Bool} {A A' A2:Option Addr} {n n' n2 c c' c2 m2 s K q d:Nat} {m z e sc:Int} {r pw:Rat}
theorem qpower_n {k:Nat} {i:Int} (h:Nm W A n c q) (hi:-(k:Int)=i) (h0:0 < k) (hk:k≤1000000) (hb:∀ i,i≤k→dl (q ^ i)≤100000):Calls Tryz.prog 180 #[.agg #[.slice A n c],.int .i64 i] W (NumR W (q ^ k)):=by
 obtain ⟨j,rfl⟩:∃ j,k=j + 1:=⟨k - 1,by omega⟩
 obtain ⟨u,hu⟩:∃ u,q ^ j=u:=⟨_,rfl⟩
 obtain ⟨v,hv⟩:∃ v,q ^ (j + 1)=v:=⟨_,rfl⟩
 have CP:Hid (∀ W',Bel W W'→Calls Tryz.prog 212 #[.agg #[.slice A n c],.int .i64 (j:Int)] W' (NumR W' u)):=fun W' hw=>pow_h (h.up hw.hid) (by omega) (fun i hi=>hb i (by omega)) hu
 have CM:Hid (∀ W' B e,Bel W W'→Nm W' B (dl u) e u→Calls Tryz.prog 133 #[.agg #[.slice B (dl u) e],.agg #[.slice A n c]] W' (NumR W' v)):=fun W' B e hw hn=>mul_h hn (h.up hw.hid) (by rw [← hu,← hv,Nat.pow_succ]) (by rw [← hv];exact hb _ (Nat.le_refl _))
 have g1:decide (i < 0)=true:=decide_eq_true (by omega)
 have g1':i < 0:=by omega
 have w1:IntKind.i64.wrap (i + 1)=i + 1:=IntWalk.i64_in _ (by omega)
 have w2:wrap64 (i + 1)=i + 1:=IntWalk.wrap64_in _ (by omega)
 have w3:-(i + 1)=(j:Int):=by omega
 have w4:wrap64 (j:Int)=(j:Int):=IntWalk.wrap64_in _ (by omega)
 have w5:IntKind.i64.wrap (j:Int)=(j:Int):=IntWalk.i64_in _ (by omega)
 rw [hv]
 clear hu hv h hb hk hi h0
 have HB:=Bel.refl W
 go_enter Tryz.func180,Tryz.ntmps180
 go_wp2_with fail
 obtain ⟨W1,hW1⟩:∃ X,X=(W.alloc (.cells #[.slice A n c] 42)).alloc (.cells #[.slice none 0 0] 42):=⟨_,rfl⟩
 rw [← hW1]
 have H0:At W1 W.heap.size [.slice A n c]:=by rw [hW1];exact (at_new0 _ _ _).al _
 have HR:At W1 (W.heap.size + 1) [.slice none 0 0]:=by rw [hW1];exact at_new1 _ _ _ _
 replace HB:Bel W W1:=by rw [hW1];exact (HB.al _).al _
 clear hW1
 have l0:=H0.lt
 have l1:=HR.lt
 go_region_held3 (fun w'=>w'.cell? ⟨W.heap.size,0,none⟩=some (.slice A n c))
  (refine (?_:At _ W.heap.size [.slice A n c]).c0 <;> (repeat (first | with_reducible exact H0 | (with_reducible refine At.dr ?_) | (with_reducible refine At.al ?_ _) | (with_reducible refine At.far ?_ (by omega) _))))
  (first | (go_at_call 212;(with_reducible refine (CP.out _ HB.dr).mono ?_);rintro e w2 ⟨B2,e2,rfl,n2',hbk⟩;(with_reducible (replace HB:=HB.dr.up hbk;replace H0:=H0.dr.up hbk;replace HR:=HR.dr.up hbk))) | (go_at_call 133;(with_reducible refine (CM.out _ _ _ HB n2').mono ?_);rintro e w3 ⟨B3,e3,rfl,n3,hbk⟩;(with_reducible (replace HB:=HB.up hbk;replace H0:=H0.up hbk;replace HR:=HR.up hbk));have hr_0:=HR.c0;have hr_l:=HR.lt;have hr_f0:=HR.f0) | fail)
 go_wp2_with fail
 refine bodyPost_ret (v:=.agg #[.slice B3 (dl v) e3]) (by simp [results,Tryz.results180,go_sem,hr_0]) rfl ?_
 exact ret_n HB (by omega) HR now1 n3
theorem rpow_n {k:Nat} {i:Int} (hi:-(k:Int)=i) (hk0:0 < k) (h:QA W b A n c A' n' c' r K) (h0:0 < r) (hb:Bd r K) (hbi:Bd r⁻¹ K) (hK0:0 < K) (hK2:K≤20000) (hk:K * k≤90000):Calls Tryz.prog 127 #[.agg #[.bool b,.slice A n c,.slice A' n' c'],.int .i64 i] W (OfYw W false (r⁻¹ ^ k)):=by
 have hn0:0≤r.num:=Rat.num_nonneg.2 (Rat.le_of_lt h0)
 have hi0:0≤r⁻¹.num:=by rw [Rat.num_inv];exact Int.mul_nonneg (Int.sign_nonneg_iff.2 hn0) (by omega)
 obtain ⟨ri,hri⟩:∃ x:Rat,r⁻¹=x:=⟨_,rfl⟩
 rw [hri] at hbi hi0 ⊢
 have hkk:k≤1000000:=by
  have:1 * k≤K * k:=Nat.mul_le_mul_right k hK0
  omega
 have CT:Hid (∀ W',Bel W W'→Calls Tryz.prog 40 #[.agg #[.bool b,.slice A n c,.slice A' n' c']] W' (TermsR W' r K)):=fun W' hw=>terms_h (h.up hw.hid) hK0
 have CL:Hid (∀ W' s B k e B' k' e' z d,ZA W' s B k e z→Nm W' B' k' e' d→Hid (0 < d∧mkRat z d=r∧z.natAbs < W32 ^ K∧d < W32 ^ K)→Calls Tryz.prog 39 #[.agg #[.bool s,.slice B k e],.agg #[.slice B' k' e']] W' (QRw W' false r)):=fun W' s B k e B' k' e' z d hz hd hp=>by
  have h1:=lowest_t hz hd hp.out (by omega) (by omega)
  unfold QR at h1
  rw [decide_eq_false (show ¬ r.num < 0 by omega)] at h1
  exact h1
 have CV:Hid (∀ W' B e B' e',ZA W' false B (dl r.num.natAbs) e r.num→Nm W' B' (dl r.den) e' r.den→Calls Tryz.prog 179 #[.agg #[.bool false,.slice B (dl r.num.natAbs) e,.slice B' (dl r.den) e']] W' (OfYw W' false ri)):=fun W' B e B' e' h1 h2=>by
  have h3:=inv_yes (qa_self h1 h2 hb) hK0 hK2 (fun e0=>by rw [e0] at h0;exact absurd h0 Rat.lt_irrefl)
  unfold OfYes at h3
  rw [hri,decide_eq_false (show ¬ ri.num < 0 by omega)] at h3
  exact h3
 obtain ⟨x,hx⟩:∃ x:Nat,x=ri.num.natAbs:=⟨_,rfl⟩
 obtain ⟨y,hy⟩:∃ y:Nat,y=ri.den:=⟨_,rfl⟩
 obtain ⟨u,hu⟩:∃ u:Nat,x ^ k=u:=⟨_,rfl⟩
 obtain ⟨v,hv⟩:∃ v:Nat,y ^ k=v:=⟨_,rfl⟩
 have bx:x < W32 ^ K:=by rw [hx];exact hbi.1
 have by_:y < W32 ^ K:=by rw [hy];exact hbi.2
 have CX:Hid (∀ W' B n e,Nm W' B n e x→Calls Tryz.prog 180 #[.agg #[.slice B n e],.int .i64 i] W' (NumR W' u)):=fun W' B n e h1=>by rw [← hu];exact qpower_n h1 hi hk0 hkk (fun i hi=>pow_bd bx hk hi)
 have CY:Hid (∀ W' B n e,Nm W' B n e y→Calls Tryz.prog 180 #[.agg #[.slice B n e],.int .i64 i] W' (NumR W' v)):=fun W' B n e h1=>by rw [← hv];exact qpower_n h1 hi hk0 hkk (fun i hi=>pow_bd by_ hk hi)
 have HX:Hid ((ri ^ k).num.natAbs=u∧(ri ^ k).den=v ∧ ¬ (ri ^ k).num < 0):=by
  unfold Hid
  rw [Rat.num_pow,Rat.den_pow,Int.natAbs_pow,← hx,← hy,hu,hv]
  refine ⟨rfl,rfl,?_⟩
  have h9:0≤ri.num ^ k:=Int.pow_nonneg hi0
  omega
 have g1:decide (i < 0)=true:=decide_eq_true (by omega)
 have g1':i < 0:=by omega
 have HXR:=hide hx
 have HYR:=hide hy
 clear hri h h0 hb hbi hK0 hK2 hk hn0 hi0 hkk hu hv bx by_ hx hy hi hk0
 have HB:=Bel.refl W
 go_enter Tryz.func127,Tryz.ntmps127
 go_wp2_with (first | (go_at_call 40;(with_reducible refine (CT.out _ ((HB.al _).al _)).mono ?_);rintro e w1 ⟨s,B,k1,e1,B',k2,e2,zv,d,rfl,zp,np,hp,hbk⟩;(with_reducible (have HR:At w1 (W.heap.size + 1) [.bool false,.slice none 0 0,.slice none 0 0]:=At.up (at_new1 _ _ _ _) hbk;replace HB:=((HB.al _).al _).up hbk))) | (go_at_call 39;(with_reducible refine (CL.out _ _ _ _ _ _ _ _ _ _ zp np hp).mono ?_);rintro e w2 ⟨B0,e0,B1,e1',rfl,z0,n0,hbk⟩;(with_reducible (replace HB:=HB.up hbk;replace HR:=HR.up hbk));have hne:=HR.lt) | (go_at_call 179;(with_reducible refine (CV.out _ _ _ _ _ (z0.al _) (n0.al _)).mono ?_);rintro e w3 ⟨Bx,ex,By,ey,rfl,zx,ny,hbk⟩;(with_reducible (have H0:At w3 w2.heap.size [.bool false,.slice B0 (dl r.num.natAbs) e0,.slice B1 (dl r.den) e1']:=At.up (at_new0 _ _ _) hbk;replace HB:=(HB.al _).up hbk;replace HR:=(HR.al _).up hbk));have h0_0:=H0.c0;have h0_1:=H0.c1;have h0_2:=H0.c2;have h0_l:=H0.lt;have h0_f0:=H0.f0;have h0_f1:=H0.f1;have h0_f2:=H0.f2) | fail)
 have nx:=zx.1
 have hrl:=HR.lt
 rw [← HXR.out] at nx ⊢
 rw [← HYR.out] at ny ⊢
 refine wp_named ?_
 intro W1 hW1
 have H1:At W1 w2.heap.size [.bool false,.slice Bx (dl x) ex,.slice By (dl y) ey]:=by rw [hW1];first | exact (H0.put3 _ _ _).al _ | exact (H0.al _).put3 _ _ _
 have HR1:At W1 (W.heap.size + 1) [.bool false,.slice none 0 0,.slice none 0 0]:=by rw [hW1];first | exact (HR.far3 (by omega) _ _ _).al _ | exact (HR.al _).far3 (by omega) _ _ _
 have HB1:Bel W W1:=by rw [hW1];first | exact (HB.uput3 (by omega) _ _ _).al _ | exact (HB.al _).uput3 (by omega) _ _ _
 have nx1:Nm W1 Bx (dl x) ex x:=by rw [hW1];first | exact (nx.put3 H0 now3).al _ | exact (nx.al _).put3 (H0.al _) now3
 have ny1:Nm W1 By (dl y) ey y:=by rw [hW1];first | exact (ny.put3 H0 now3).al _ | exact (ny.al _).put3 (H0.al _) now3
 clear hW1 zx zp np hp nx ny HB HR h0_0 h0_1 h0_2 h0_l h0_f0 h0_f1 h0_f2 H0 z0 n0
 rename Bel W W1=>HB
 have HR:=HR1
 have H0:=H1
 have nx:=nx1
 have ny:=ny1
 clear HR1 H1 nx1 ny1
 obtain ⟨pb,hpb⟩:∃ p,p=w2.heap.size:=⟨_,rfl⟩
 rw [← hpb] at H0 hne ⊢
 clear hpb hrl
 have l0:=H0.lt
 have l2:=HR.lt
 go_cut [9,10] from 27 to 35 (fun o o' w=>∃ p q B e B' e',o = .pointer (some ⟨p,0,none⟩)∧o' = .pointer (some ⟨q,0,none⟩)∧W.heap.size + 1 < p∧W.heap.size + 1 < q∧At w p [.slice B (dl u) e]∧At w q [.slice B' (dl v) e']∧Nm w B (dl u) e u∧Nm w B' (dl v) e' v∧Bel W1 w)
 case first =>
  have HW:=Bel.refl W1
  go_region_held3 (fun w'=>w'.cell? ⟨pb,0,none⟩=some (.bool false)∧w'.cell? ⟨pb,1,none⟩=some (.slice Bx (dl x) ex)∧w'.cell? ⟨pb,2,none⟩=some (.slice By (dl y) ey))
   (refine ⟨(?_:At _ pb [.bool false,.slice Bx (dl x) ex,.slice By (dl y) ey]).c0,(?_:At _ pb [.bool false,.slice Bx (dl x) ex,.slice By (dl y) ey]).c1,(?_:At _ pb [.bool false,.slice Bx (dl x) ex,.slice By (dl y) ey]).c2⟩ <;> (repeat (first | with_reducible exact H0 | (with_reducible refine At.dr ?_) | (with_reducible refine At.al ?_ _) | (with_reducible refine At.far ?_ (by omega) _))))
   (first | (go_at_call 180;(with_reducible refine (CX.out _ _ _ _ nx.dr).mono ?_);rintro e w4 ⟨Bu,eu,rfl,nu,hbk⟩;(with_reducible (replace HB:=HB.dr.up hbk;replace HW:=HW.dr.up hbk;replace H0:=H0.dr.up hbk;replace nx:=nx.dr.up hbk;replace ny:=ny.dr.up hbk));have lz0:=H0.lt;(try have lz2:=HP0.lt);(try have lz3:=HP1.lt);have zs1:=Below.size HW) | (go_at_call 180;(with_reducible refine (CX.out _ _ _ _ (nx.al _).dr).mono ?_);rintro e w4 ⟨Bu,eu,rfl,nu,hbk⟩;(with_reducible (have HP0:=At.up (at_new0 _ [.slice none 0 0] _).dr hbk;replace HB:=(HB.al _).dr.up hbk;replace HW:=(HW.al _).dr.up hbk;replace H0:=(H0.al _).dr.up hbk;replace nx:=(nx.al _).dr.up hbk;replace ny:=(ny.al _).dr.up hbk));have lz0:=H0.lt;(try have lz2:=HP0.lt);(try have lz3:=HP1.lt);have zs1:=Below.size HW) | (go_at_call 180;(with_reducible refine (CX.out _ _ _ _ ((nx.al _).al _).dr).mono ?_);rintro e w4 ⟨Bu,eu,rfl,nu,hbk⟩;(with_reducible (have HP0:=At.up ((at_new0 _ [.slice none 0 0] _).al _).dr hbk;have HP1:=At.up (at_new1 _ _ [.slice none 0 0] _).dr hbk;replace HB:=((HB.al _).al _).dr.up hbk;replace HW:=((HW.al _).al _).dr.up hbk;replace H0:=((H0.al _).al _).dr.up hbk;replace nx:=((nx.al _).al _).dr.up hbk;replace ny:=((ny.al _).al _).dr.up hbk));have lz0:=H0.lt;(try have lz2:=HP0.lt);(try have lz3:=HP1.lt);have zs1:=Below.size HW) | (go_at_call 180;(with_reducible refine (CY.out _ _ _ _ ny).mono ?_);rintro e w5 ⟨Bv,ev,rfl,nv,hbk⟩;(with_reducible (replace HB:=HB.up hbk;replace HW:=HW.up hbk;replace H0:=H0.up hbk;replace nu:=nu.up hbk));(try (with_reducible replace HP0:=HP0.up hbk));(try (with_reducible replace HP1:=HP1.up hbk));(try have hp0_0:=HP0.c0);(try have fhp0_0:=HP0.f0);(try have lhp0:=HP0.lt);(try have hp1_0:=HP1.c0);(try have fhp1_0:=HP1.f0);(try have lhp1:=HP1.lt);(try have hq0_0:=HQ0.c0);(try have fhq0_0:=HQ0.f0);(try have lhq0:=HQ0.lt);(try have hq1_0:=HQ1.c0);(try have fhq1_0:=HQ1.f0);(try have lhq1:=HQ1.lt);have lz4:=H0.lt;have zs2:=Below.size HW) | (go_at_call 180;(with_reducible refine (CY.out _ _ _ _ (ny.al _)).mono ?_);rintro e w5 ⟨Bv,ev,rfl,nv,hbk⟩;(with_reducible (have HQ0:=At.up (at_new0 _ [.slice none 0 0] _) hbk;replace HB:=(HB.al _).up hbk;replace HW:=(HW.al _).up hbk;replace H0:=(H0.al _).up hbk;replace nu:=(nu.al _).up hbk));(try (with_reducible replace HP0:=(HP0.al _).up hbk));(try (with_reducible replace HP1:=(HP1.al _).up hbk));(try have hp0_0:=HP0.c0);(try have fhp0_0:=HP0.f0);(try have lhp0:=HP0.lt);(try have hp1_0:=HP1.c0);(try have fhp1_0:=HP1.f0);(try have lhp1:=HP1.lt);(try have hq0_0:=HQ0.c0);(try have fhq0_0:=HQ0.f0);(try have lhq0:=HQ0.lt);(try have hq1_0:=HQ1.c0);(try have fhq1_0:=HQ1.f0);(try have lhq1:=HQ1.lt);have lz4:=H0.lt;have zs2:=Below.size HW) | (go_at_call 180;(with_reducible refine (CY.out _ _ _ _ ((ny.al _).al _)).mono ?_);rintro e w5 ⟨Bv,ev,rfl,nv,hbk⟩;(with_reducible (have HQ0:=At.up ((at_new0 _ [.slice none 0 0] _).al _) hbk;have HQ1:=At.up (at_new1 _ _ [.slice none 0 0] _) hbk;replace HB:=((HB.al _).al _).up hbk;replace HW:=((HW.al _).al _).up hbk;replace H0:=((H0.al _).al _).up hbk;replace nu:=((nu.al _).al _).up hbk));(try (with_reducible replace HP0:=((HP0.al _).al _).up hbk));(try (with_reducible replace HP1:=((HP1.al _).al _).up hbk));(try have hp0_0:=HP0.c0);(try have fhp0_0:=HP0.f0);(try have lhp0:=HP0.lt);(try have hp1_0:=HP1.c0);(try have fhp1_0:=HP1.f0);(try have lhp1:=HP1.lt);(try have hq0_0:=HQ0.c0);(try have fhq0_0:=HQ0.f0);(try have lhq0:=HQ0.lt);(try have hq1_0:=HQ1.c0);(try have fhq1_0:=HQ1.f0);(try have lhq1:=HQ1.lt);have lz4:=H0.lt;have zs2:=Below.size HW) | fail)
  all_goals
   go_wp2_with fail
   go_meet
   case rel =>
    refine ⟨_,_,Bu,eu,Bv,ev,rfl,rfl,(by first | omega | (show _ < W1.heap.size;omega) | (show _ < W1.heap.size + 1;omega) | (simp;omega)),(by first | omega | (show _ < W1.heap.size;omega) | (show _ < W1.heap.size + 1;omega) | (simp;omega)),?_,?_,?_,?_,?_⟩ <;> (repeat (first | with_reducible exact nu | with_reducible exact nv | with_reducible exact HW | with_reducible exact HP0 | with_reducible exact HP1 | with_reducible exact HQ0 | with_reducible exact HQ1 | with_reducible exact at_new0 _ _ _ | with_reducible exact at_new1 _ _ _ _ | with_reducible exact at_newS _ _ _ _ | (with_reducible refine Bel.dr ?_) | (with_reducible refine Bel.al ?_ _) | (with_reducible refine Bel.put ?_ (by omega) _) | (with_reducible refine Nm.dr ?_) | (with_reducible refine Nm.al ?_ _) | (with_reducible refine Nm.putx ?_ ⟨.slice none 0 0,At.c0 (vs:=[]) ?_,not_u32⟩ _) | (with_reducible refine At.dr ?_) | (with_reducible refine At.al ?_ _) | (with_reducible refine At.put1 (v:=.slice none 0 0) ?_ _) | (with_reducible refine At.far ?_ (by omega) _)))
 case rest =>
  obtain ⟨p,q,Bu,eu,Bv,ev,rfl,rfl,hp,hq,HP,HQ,nu,nv,hW⟩:=hcut
  replace HB:=HB.up hW.hid
  replace H0:=H0.up hW.hid
  replace HR:=HR.up hW.hid
  clear hW l0 l2 nx ny
  have hx0:=H0.c0
  have hx1:=H0.lt
  have hp_0:=HP.c0
  have hp_l:=HP.lt
  have hq_0:=HQ.c0
  have hq_l:=HQ.lt
  have hr_0:=HR.c0
  have hr_1:=HR.c1
  have hr_2:=HR.c2
  have hr_l:=HR.lt
  have hr_f0:=HR.f0
  have hr_f1:=HR.f1
  have hr_f2:=HR.f2
  go_wp2_with fail
  refine bodyPost_ret (v:=.tuple #[.agg #[.bool false,.slice Bu (dl u) eu,.slice Bv (dl v) ev],.bool true]) (by simp [results,Tryz.results127,go_sem,hr_0,hr_1,hr_2]) rfl ?_
  obtain ⟨g1,g2,g3⟩:=HX.out
  refine ⟨Bu,eu,Bv,ev,by rw [g1,g2],⟨by rw [g1];exact nu.putq HR _ _ _ _ _ _ _,?_⟩,by rw [g2];exact nv.putq HR _ _ _ _ _ _ _,(HB.put3 (by omega) _ _ _).hid⟩
  unfold Hid
  rw [zi_false]
  omega
end
end Go.Proofs.YtfflmmbhpchloaaGreatDoor
end
section
open Go.RowKit
open Go.Proofs.YtfflmmbhpchloaaGreatDoor.V
namespace Go.Proofs.YtfflmmbhpchloaaGreatDoor
theorem bd_invT {r:Rat} {K:Nat} (h:Bd r K) (h0:0 < r):Bd r⁻¹ K:=by
 have hn:r.num ≠ 0:=fun e=>by rw [Rat.num_eq_zero] at e;rw [e] at h0;exact absurd h0 (by decide)
 refine ⟨?_,?_⟩
 ·rw [Rat.num_inv,Int.natAbs_mul,Int.natAbs_sign_of_ne_zero hn,Nat.one_mul,Int.natAbs_natCast]
  exact h.2
 ·rw [Rat.den_inv,if_neg hn]
  exact h.1
theorem bd_mulT {r r':Rat} {K L:Nat} (h:Bd r K) (h':Bd r' L):Bd (r * r') (K + L):=by
 have h2:(r * r').num.natAbs≤r.num.natAbs * r'.num.natAbs∧(r * r').den≤r.den * r'.den:=by
  rw [Rat.num_mul,Rat.den_mul]
  refine ⟨?_,Nat.div_le_self _ _⟩
  rw [← Int.natAbs_mul]
  exact Nat.le_trans (Int.natAbs_ediv_le_natAbs _ _) (Nat.le_refl _)
 refine ⟨Nat.lt_of_le_of_lt h2.1 ?_,Nat.lt_of_le_of_lt h2.2 ?_⟩
 ·rw [Nat.pow_add];exact Nat.mul_lt_mul'' h.1 h'.1
 ·rw [Nat.pow_add];exact Nat.mul_lt_mul'' h.2 h'.2
theorem pos_sign {r:Rat} (h:0 < r):decide (r.num < 0)=false:=decide_eq_false (by have:=Rat.num_nonneg.2 (Rat.le_of_lt h);omega)
theorem powD_one (r:Rat):powD r 1=r ^ 1:=rfl
theorem powD_neg (r:Rat):powD r (-1)=r⁻¹ ^ 1:=rfl
section
variable {base p g y:Nat} {W W':World} {x:TPl} {T:Tb} {ap an:ByteArray} {pw sg:Int} {N:Nat}
theorem Tb.one_pos (ok:OkT N T) {m:Ent} (hm:lookL T.ents an=some m):0 < T.one (ap,an,pw)∧Bd (T.one (ap,an,pw)) 15:=by
 unfold Tb.one
 rw [show ((ap,an,pw):AL).2.1=an from rfl,hm,show ((ap,an,pw):AL).1=ap from rfl]
 obtain ⟨h1,h2,_⟩:=ok.ent _ _ hm
 dsimp only
 cases hv:lookL T.vals ap with
 | none=>exact ⟨h1,h2.more (by decide)⟩
 | some v =>
   obtain ⟨h3,h4⟩:=ok.val _ _ hv
   exact ⟨Rat.mul_pos h3 h1,(bd_mulT h4 h2).more (by decide)⟩
theorem pow_sg {r:Rat} {K:Nat} (h0:0 < r) (hb:Bd r K) (hK:0 < K) (hK2:K≤20000) (hs:sg=1 ∨ sg = -1) (W:World) {b:Bool} {A A':Option Addr} {n c n' c':Nat} (h:QA W b A n c A' n' c' r K) :
 Calls Tryz.prog 127 #[.agg #[.bool b,.slice A n c,.slice A' n' c'],.int .i64 sg] W (OfYw W false (powD r sg)):=by
 rcases hs with rfl | rfl
 ·rw [powD_one]
  exact rpow_p (k:=1) h (Rat.le_of_lt h0) hb hK hK2 (by omega)
 ·rw [powD_neg]
  exact rpow_n (k:=1) rfl (by decide) h h0 hb (bd_invT hb h0) hK hK2 (by omega)
theorem tturned_h (h:LdM base W g p y x T) (ok:OkT N T) {m:Ent} (hm:lookL T.ents an=some m) (hs1:ap.size≤2000000) (hs2:an.size≤2000000) (hsg:sg=1 ∨ sg = -1):Calls Tryz.prog 215 #[.pointer (some ⟨g,0,none⟩),.agg #[.string ap,.string an,.int .i64 pw],.int .i64 sg] W (QRw W false (T.turned ((ap,an,pw),sg))):=by
 obtain ⟨h15a,h15b⟩:=Tb.one_pos (ap:=ap) (pw:=pw) ok hm
 obtain ⟨fs,FA,fn,fc,FB,fm,fd,k1,hq1,_⟩:=h.lookF hs2
 obtain ⟨vs,VA,vn,vc,VB,vm,vd,k2,hq2,_⟩:=h.tab.lookV hs1
 have HQ1:=khide (hq1 m hm)
 have hfp:=(ok.ent _ _ hm).1
 have hfb:=(ok.ent _ _ hm).2.1
 obtain ⟨rr,hrr⟩:∃ r,T.turned ((ap,an,pw),sg)=r:=⟨_,rfl⟩
 obtain ⟨f,hf⟩:∃ r,T.one (ap,an,pw)=r:=⟨_,rfl⟩
 have hrf:powD f sg=rr:=by rw [← hrr,← hf];rfl
 rw [hrr]
 rw [hf] at h15a h15b
 have CP:Hid (∀ W' b A n c A' n' c',QA W' b A n c A' n' c' f 15→Calls Tryz.prog 127 #[.agg #[.bool b,.slice A n c,.slice A' n' c'],.int .i64 sg] W' (OfYw W' false rr)):=fun W' b A n c A' n' c' hq=>hrf ▸ pow_sg h15a h15b (by decide) (by decide) hsg W' hq
 have HF:Hid (f=match lookL T.vals ap with | none=>m.full | some v=>v * m.full):=by rw [← hf];unfold Tb.one;rw [show ((ap,an,pw):AL).2.1=an from rfl,hm];rfl
 have HL:=khide h
 have K1:=khide k1
 have K2:=khide k2
 have HQ2:=khide hq2
 have HFP:=khide h15a
 clear h k1 k2 hq1 hq2 hrr hrf hf hsg h15a ok hm hs1 hs2
 obtain ⟨W1,hW1⟩:∃ X,X=(W.alloc (.cells #[.string ap,.string an,.int .i64 pw] 96)).alloc (.cells #[.bool false,.slice none 0 0,.slice none 0 0] 51):=⟨_,rfl⟩
 have HA:At W1 W.heap.size [.string ap,.string an,.int .i64 pw]:=by rw [hW1];exact (at_new0 _ _ _).al _
 have HR:At W1 (W.heap.size + 1) [.bool false,.slice none 0 0,.slice none 0 0]:=by rw [hW1];exact at_new1 _ _ _ _
 have HB:Bel W W1:=by rw [hW1];exact ((Bel.refl W).al _).al _
 obtain ⟨q,hq⟩:∃ q,q=W.heap.size:=⟨_,rfl⟩
 obtain ⟨r,hr⟩:∃ r,r=W.heap.size + 1:=⟨_,rfl⟩
 rw [← hq] at HA
 rw [← hr] at HR
 have HQR:Hid (W.heap.size≤r∧q=W.heap.size∧r=W.heap.size + 1):=by unfold Hid;omega
 have HW:=khide hW1
 clear hW1
 go_enter Tryz.func215,Tryz.ntmps215
 go_upto_region 1 with fail
 rw [← HW.out,← hr,show Value.pointer (some ⟨W.heap.size,0,none⟩)=Value.pointer (some ⟨q,0,none⟩) by rw [hq]]
 clear hq hr HW
 have hM1:=HL.out.up HB.hid
 have HS:Hid (∀ w':World,Below W1.heap.size W1 w'→w'.cell? ⟨g,2,none⟩=some (.map (some y))∧w'.cell? ⟨q,1,none⟩=some (.string an)∧(Instr.lookup 85 (.map (some y)) (.string an) false).run Tryz.prog w' = .ok (.agg #[.bool fs,.slice FA fn fc,.slice FB fm fd]) w'):=fun w' hw =>
  ⟨(hw.cell hM1.lt).trans hM1.c2,(hw.cell HA.lt).trans HA.c1,K1.out w' ((Turn.of HB.hid).trans (Turn.of hw))⟩
 clear hM1
 refine wp_region_held_drew (S:=fun w'=>w'.cell? ⟨g,2,none⟩=some (.map (some y))∧w'.cell? ⟨q,1,none⟩=some (.string an)∧(Instr.lookup 85 (.map (some y)) (.string an) false).run Tryz.prog w' = .ok (.agg #[.bool fs,.slice FA fn fc,.slice FB fm fd]) w') (by kernel_rfl) (HS.out _ ((Below.refl _ _).drew)) (fun hHeld=>?_)
 refine tq 0 ?_
 refine tq 1 ?_
 refine tq 2 ?_
 refine tq 3 ?_
 refine tq 4 ?_
 refine tq 5 ?_
 refine tq 6 ?_
 (refine sk 7 (fun K hK=>?_);go_simp;refine hK.out _ _ ?_ (fun hHeld=>?_);(focus ((try dsimp only);exact HS.out _ (by first | exact (Below.refl _ _).drew | exact ((Below.refl _ _).alloc (Nat.le_refl _) _).drew | exact ((Below.refl _ _).drew).alloc (Nat.le_refl _) _)));clear hK K;(try simp only [lay7,Act.put]))
 (refine sk 8 (fun K hK=>?_);go_simp;refine hK.out _ _ ?_ (fun hHeld=>?_);(focus ((try dsimp only);exact HS.out _ (by first | exact (Below.refl _ _).drew | exact ((Below.refl _ _).alloc (Nat.le_refl _) _).drew | exact ((Below.refl _ _).drew).alloc (Nat.le_refl _) _)));clear hK K;(try simp only [lay7,Act.put]))
 refine wpAnyH_done (by decide +kernel) ?_ _
 refine name_at ?_
 intro W2 hW2
 have HF0:At W2 W1.heap.size [.bool fs,.slice FA fn fc,.slice FB fm fd]:=by rw [hW2];exact (at_new0 _ _ _).dr
 have hb12:Hid (Below W1.heap.size W1 W2):=by rw [hW2];exact ((Below.refl _ _).alloc (Nat.le_refl _) _).drew
 obtain ⟨qf,hqf⟩:∃ q,q=W1.heap.size:=⟨_,rfl⟩
 rw [← hqf] at HF0 ⊢
 have hrl:r < qf:=by rw [hqf];exact HR.lt
 replace HA:=HA.up hb12
 replace HR:=HR.up hb12
 replace HB:=HB.up hb12
 clear hW2 hqf hb12 HS hHeld
 go_upto_region 2 with fail
 have hM2:=HL.out.up HB.hid
 cases hv:lookL T.vals ap with
 | none =>
   rw [hv] at HF K2
   have HFF:Hid (f=m.full):=HF
   have HS:Hid (∀ w':World,Below W2.heap.size W2 w'→w'.cell? ⟨g,0,none⟩=some (.pointer (some ⟨p,0,none⟩))∧w'.cell? ⟨p,3,none⟩=some (.map (some x.b2))∧w'.cell? ⟨q,0,none⟩=some (.string ap)∧(Instr.lookup 85 (.map (some x.b2)) (.string ap) true).run Tryz.prog w' = .ok (.tuple #[.agg #[.bool vs,.slice VA vn vc,.slice VB vm vd],.bool false]) w'):=fun w' hw =>
    ⟨(hw.cell hM2.lt).trans hM2.c0,(hw.cell hM2.tab.lt).trans hM2.tab.c3,(hw.cell HA.lt).trans HA.c0,K2.out w' ((Turn.of HB.hid).trans (Turn.of hw))⟩
   clear hM2 hv HF HQ2
   refine wp_region_held_drew (S:=fun w'=>w'.cell? ⟨g,0,none⟩=some (.pointer (some ⟨p,0,none⟩))∧w'.cell? ⟨p,3,none⟩=some (.map (some x.b2))∧w'.cell? ⟨q,0,none⟩=some (.string ap)∧(Instr.lookup 85 (.map (some x.b2)) (.string ap) true).run Tryz.prog w' = .ok (.tuple #[.agg #[.bool vs,.slice VA vn vc,.slice VB vm vd],.bool false]) w') (by kernel_rfl) (HS.out _ ((Below.refl _ _).drew)) (fun hHeld=>?_)
   refine tq 0 ?_
   refine tq 1 ?_
   refine tq 2 ?_
   refine tq 3 ?_
   refine tq 4 ?_
   refine tq 5 ?_
   refine tq 6 ?_
   refine tq 7 ?_
   refine tq 8 ?_
   refine tq 9 ?_
   refine tq 10 ?_
   refine tq 11 ?_
   refine tq 12 ?_
   (refine sk 13 (fun K hK=>?_);go_simp;refine hK.out _ _ ?_ (fun hHeld=>?_);(focus ((try dsimp only);exact HS.out _ (by first | exact (Below.refl _ _).drew | exact ((Below.refl _ _).alloc (Nat.le_refl _) _).drew | exact ((Below.refl _ _).drew).alloc (Nat.le_refl _) _)));clear hK K;(try simp only [lay7,Act.put]))
   (refine sk 14 (fun K hK=>?_);go_simp;refine hK.out _ _ ?_ (fun hHeld=>?_);(focus ((try dsimp only);exact HS.out _ (by first | exact (Below.refl _ _).drew | exact ((Below.refl _ _).alloc (Nat.le_refl _) _).drew | exact ((Below.refl _ _).drew).alloc (Nat.le_refl _) _)));clear hK K;(try simp only [lay7,Act.put]))
   refine tq 15 ?_
   refine wpAnyH_done (by decide +kernel) ?_ _
   refine name_at ?_
   intro W3 hW3
   have hb23:Hid (Below W2.heap.size W2 W3):=by rw [hW3];exact ((Below.refl _ _).alloc (Nat.le_refl _) _).drew
   replace HR:=HR.up hb23
   replace HB:=HB.up hb23
   replace HF0:=HF0.up hb23
   clear hW3 HS hHeld hb23 HA
   have hQ3:=khide (((HQ1.out.up HB.hid).more (show 11≤15 by decide)))
   have hf_0:=HF0.c0;have hf_1:=HF0.c1;have hf_2:=HF0.c2;have hf_l:=HF0.lt
   have hr_0:=HR.c0;have hr_1:=HR.c1;have hr_2:=HR.c2;have hr_l:=HR.lt;have hr_f0:=HR.f0;have hr_f1:=HR.f1;have hr_f2:=HR.f2
   go_wp2_with (first | (go_at_call 127;(with_reducible refine (CP.out _ _ _ _ _ _ _ _ (HFF.out ▸ hQ3.out)).mono ?_);rintro e w6 ⟨RA,rc,RB,rd,rfl,rz,rn,hb6⟩;have hR6:=HR.up hb6;have hB6:=HB.up hb6;clear hr_0 hr_1 hr_2 hr_l hr_f0 hr_f1 hr_f2;have hr_0:=hR6.c0;have hr_1:=hR6.c1;have hr_2:=hR6.c2;have hr_l:=hR6.lt;have hr_f0:=hR6.f0;have hr_f1:=hR6.f1;have hr_f2:=hR6.f2) | fail)
   refine bodyPost_ret (v:=.agg #[.bool false,.slice RA (dl rr.num.natAbs) rc,.slice RB (dl rr.den) rd]) (by simp [results,Tryz.results215,go_sem,hr_0,hr_1,hr_2,hr_l]) rfl ?_
   first | exact ⟨RA,rc,RB,rd,rfl,(rz.put3 hR6).al _,(rn.put3 hR6 now3).al _,(Bel.of (below3 hB6 (by have:=HQR.out;omega) _ _ _)).al _⟩ | exact ⟨RA,rc,RB,rd,rfl,(rz.al _).put3 (hR6.al _),(rn.al _).put3 (hR6.al _) now3,below3 (hB6.al _) (by have:=HQR.out;omega) _ _ _⟩
 | some v =>
   rw [hv] at HF K2
   have HFF:Hid (f=v * m.full):=HF
   have HS:Hid (∀ w':World,Below W2.heap.size W2 w'→w'.cell? ⟨g,0,none⟩=some (.pointer (some ⟨p,0,none⟩))∧w'.cell? ⟨p,3,none⟩=some (.map (some x.b2))∧w'.cell? ⟨q,0,none⟩=some (.string ap)∧(Instr.lookup 85 (.map (some x.b2)) (.string ap) true).run Tryz.prog w' = .ok (.tuple #[.agg #[.bool vs,.slice VA vn vc,.slice VB vm vd],.bool true]) w'):=fun w' hw =>
    ⟨(hw.cell hM2.lt).trans hM2.c0,(hw.cell hM2.tab.lt).trans hM2.tab.c3,(hw.cell HA.lt).trans HA.c0,K2.out w' ((Turn.of HB.hid).trans (Turn.of hw))⟩
   have HQV:=khide (HQ2.out v hv)
   have CM:Hid (∀ W' b A n c A' n' c' b2 A2 n2 c2 A2' n2' c2',QA W' b A n c A' n' c' v 15→QA W' b2 A2 n2 c2 A2' n2' c2' m.full 15→Calls Tryz.prog 184 #[.agg #[.bool b,.slice A n c,.slice A' n' c'],.agg #[.bool b2,.slice A2 n2 c2,.slice A2' n2' c2']] W' (QRw W' false f)):=fun W' b A n c A' n' c' b2 A2 n2 c2 A2' n2' c2' h1 h2=>by
    have h3:=rmul_h h1 h2 (by decide) (by decide)
    unfold QR at h3
    rw [← HFF.out,pos_sign HFP.out] at h3
    exact h3
   clear hM2 hv HF HQ2
   refine wp_region_held_drew (S:=fun w'=>w'.cell? ⟨g,0,none⟩=some (.pointer (some ⟨p,0,none⟩))∧w'.cell? ⟨p,3,none⟩=some (.map (some x.b2))∧w'.cell? ⟨q,0,none⟩=some (.string ap)∧(Instr.lookup 85 (.map (some x.b2)) (.string ap) true).run Tryz.prog w' = .ok (.tuple #[.agg #[.bool vs,.slice VA vn vc,.slice VB vm vd],.bool true]) w') (by kernel_rfl) (HS.out _ ((Below.refl _ _).drew)) (fun hHeld=>?_)
   refine tq 0 ?_
   refine tq 1 ?_
   refine tq 2 ?_
   refine tq 3 ?_
   refine tq 4 ?_
   refine tq 5 ?_
   refine tq 6 ?_
   refine tq 7 ?_
   refine tq 8 ?_
   refine tq 9 ?_
   refine tq 10 ?_
   refine tq 11 ?_
   refine tq 12 ?_
   (refine sk 13 (fun K hK=>?_);go_simp;refine hK.out _ _ ?_ (fun hHeld=>?_);(focus ((try dsimp only);exact HS.out _ (by first | exact (Below.refl _ _).drew | exact ((Below.refl _ _).alloc (Nat.le_refl _) _).drew | exact ((Below.refl _ _).drew).alloc (Nat.le_refl _) _)));clear hK K;(try simp only [lay7,Act.put]))
   (refine sk 14 (fun K hK=>?_);go_simp;refine hK.out _ _ ?_ (fun hHeld=>?_);(focus ((try dsimp only);exact HS.out _ (by first | exact (Below.refl _ _).drew | exact ((Below.refl _ _).alloc (Nat.le_refl _) _).drew | exact ((Below.refl _ _).drew).alloc (Nat.le_refl _) _)));clear hK K;(try simp only [lay7,Act.put]))
   refine tq 15 ?_
   refine wpAnyH_done (by decide +kernel) ?_ _
   refine name_at ?_
   intro W3 hW3
   have hb23:Hid (Below W2.heap.size W2 W3):=by rw [hW3];exact ((Below.refl _ _).alloc (Nat.le_refl _) _).drew
   have HV0:At W3 W2.heap.size [.bool vs,.slice VA vn vc,.slice VB vm vd]:=by rw [hW3];exact (at_new0 _ _ _).dr
   replace HR:=HR.up hb23
   replace HB:=HB.up hb23
   replace HF0:=HF0.up hb23
   clear hW3 HS hHeld hb23 HA
   have hQ3:=khide (((HQ1.out.up HB.hid).more (show 11≤15 by decide)))
   have hQ4:=khide (((HQV.out.up HB.hid).more (show 4≤15 by decide)))
   have hv_0:=HV0.c0;have hv_1:=HV0.c1;have hv_2:=HV0.c2;have hv_l:=HV0.lt
   have hf_0:=HF0.c0;have hf_1:=HF0.c1;have hf_2:=HF0.c2;have hf_l:=HF0.lt
   go_wp2_with (first
    | (go_at_call 184;(with_reducible refine (CM.out _ _ _ _ _ _ _ _ _ _ _ _ _ _ _ hQ4.out hQ3.out).mono ?_);rintro e w5 ⟨MA,mc,MB,md,rfl,mz,mn,hb5⟩;replace HR:=HR.up hb5;replace HB:=HB.up hb5;replace HF0:=HF0.up hb5;clear hv_0 hv_1 hv_2 hv_l hf_0 hf_1 hf_2 hf_l;have hf_0:=HF0.c0;have hf_1:=HF0.c1;have hf_2:=HF0.c2;have hf_l:=HF0.lt;have hf_f0:=HF0.f0;have hf_f1:=HF0.f1;have hf_f2:=HF0.f2)
    | (go_at_call 127;(with_reducible refine (CP.out _ _ _ _ _ _ _ _ (qa_self (mz.put3 HF0) (mn.put3 HF0 now3) h15b)).mono ?_);rintro e w6 ⟨RA,rc,RB,rd,rfl,rz,rn,hb6⟩;have hR6:At w6 r [.bool false,.slice none 0 0,.slice none 0 0]:=(HR.far3 (by omega) _ _ _).up hb6;have hB6:Bel W w6:=(Bel.of (below3 HB (by have:=HQR.out;omega) _ _ _)).up hb6;have hr_0:=hR6.c0;have hr_1:=hR6.c1;have hr_2:=hR6.c2;have hr_l:=hR6.lt;have hr_f0:=hR6.f0;have hr_f1:=hR6.f1;have hr_f2:=hR6.f2)
    | fail)
   refine bodyPost_ret (v:=.agg #[.bool false,.slice RA (dl rr.num.natAbs) rc,.slice RB (dl rr.den) rd]) (by simp [results,Tryz.results215,go_sem,hr_0,hr_1,hr_2,hr_l]) rfl ?_
   first | exact ⟨RA,rc,RB,rd,rfl,(rz.put3 hR6).al _,(rn.put3 hR6 now3).al _,(Bel.of (below3 hB6 (by have:=HQR.out;omega) _ _ _)).al _⟩ | exact ⟨RA,rc,RB,rd,rfl,(rz.al _).put3 (hR6.al _),(rn.al _).put3 (hR6.al _) now3,below3 (hB6.al _) (by have:=HQR.out;omega) _ _ _⟩
end
end Go.Proofs.YtfflmmbhpchloaaGreatDoor
end
section
open Go.RowKit
namespace Go.Proofs.YtfflmmbhpchloaaGreatDoor
theorem rounds_ind {F:Fence} {n:Nat} {P:Program} {c:Code} {Q:Exit→Act→World→Prop} (R:Nat→Act→World→Prop) (h0:∀ a w,¬ R 0 a w) (hs:∀ m a w,R (m + 1) a w→c.wpIn F n P (Exit.then (R m) Q) a w) (m:Nat) (a:Act) (w:World) (h:R m a w):Code.roundsIn F n P c Q m a w:=by
 induction m generalizing a w with
 | zero=>exact absurd h (h0 a w)
 | succ m ih =>
   rw [roundsIn_succ]
   refine wpIn_mono (hs m a w h) fun e a' w' hq=>?_
   cases e with
   | normal=>exact ih a' w' hq
   | _=>exact hq
theorem leave_all {F:Fence} {n:Nat} {P:Program} {fn:Func} {tmps:Array Value} {R:Ending→World→Prop} :
 ∀ (Ds:List Nat) (w:World),Ds.Nodup→(∀ D ∈ Ds,w.heap[D]? = some (.deferred (some [])))→(∀ w',Turn Ds w w'→LeavesInM F n P fn tmps R [] .returning w')→LeavesInM F n P fn tmps R (Ds.map fun D=>{ target:=.collected D,args:=#[] }) .returning w
 | [],w,_,_,h=>h w (Turn.refl w)
 | D :: Ds,w,hn,hd,h=>by
   refine ⟨by simp,.inl ⟨_,_,rfl,run_takeDeferred (hd D List.mem_cons_self),?_⟩⟩
   have hn':=List.nodup_cons.1 hn
   have tg:Turn [D] w (w.putObj D (.deferred none)):=Turn.grown (grownBy_putObj' w D _)
   refine leave_all Ds _ hn'.2 (fun D' hD'=>?_) (fun w' t=>h w' ((tg.trans t).mono (by simp)))
   have hl:=(Array.getElem?_eq_some_iff.1 (hd D' (List.mem_cons_of_mem _ hD'))).1
   exact (tg.block D' hl (by intro e;rw [List.mem_singleton.1 e] at hD';exact hn'.1 hD')).trans (hd D' (List.mem_cons_of_mem _ hD'))
theorem At.turn {W W':World} {S:List Nat} {p:Nat} {vs:List Value} (h:At W p vs) (t:Turn S W W') (hn:p ∉ S):At W' p vs:=by
 have e:=t.block p h.lt hn
 exact ⟨Nat.lt_of_lt_of_le h.lt t.size,fun i v hv=>⟨(World.cell?_of_block (a:=⟨p,i,none⟩) e).trans (h.all i v hv).1,(World.frozen?_of_block (a:=⟨p,i,none⟩) e).trans (h.all i v hv).2⟩⟩
theorem KU.own {W W':World} {row:Option Nat} (hg:W.grownBy W' row) (hr:∀ r,row=some r → ∃ o:Obj,W.heap[r]? = some o∧o.isCells=false):KU W W':=by
 refine ⟨hg.size,fun a x e=>hg.cell e (fun h=>?_)⟩
 obtain ⟨o,ho,hc⟩:=hr a.block h.symm
 unfold World.cell? at e
 rw [ho] at e
 cases o with
 | cells cs t fr=>cases hc
 | _=>cases e
theorem KU.turn {W W':World} {S:List Nat} (t:Turn S W W') (hr:∀ r ∈ S,∃ o:Obj,W.heap[r]? = some o∧o.isCells=false):KU W W':=by
 refine ⟨t.size,fun a x e=>?_⟩
 by_cases h:a.block ∈ S
 ·obtain ⟨o,ho,hc⟩:=hr _ h
  unfold World.cell? at e
  rw [ho] at e
  cases o with
  | cells cs t fr=>cases hc
  | _=>cases e
 ·exact (World.cell?_of_block (t.block _ (World.block_lt_of_cell? _ _ e) h)).trans e
theorem and_bits:∀ k:Nat,k < 16 → ∀ j ∈ [(8:Nat),4,2,1],bits .and .i64 (k:Int) (j:Int)=if bitD j (k:Int)=true then (j:Int) else 0:=by decide +kernel
theorem and_flag {pw:Int} {j:Nat} (h0:0≤pw) (h1:pw < 16) (hj:j ∈ [8,4,2,1]):(bits .and .i64 pw (j:Int) != 0)=bitD j pw:=by
 obtain ⟨k,rfl⟩:∃ k:Nat,pw=(k:Int):=⟨pw.toNat,by omega⟩
 rw [and_bits k (by omega) j hj]
 have hp:(j:Int) ≠ 0:=by simp at hj;omega
 cases h:bitD j (k:Int)
 ·rfl
 ·simp;omega
end Go.Proofs.YtfflmmbhpchloaaGreatDoor
end
