/- RatField's walk, where all three are valid and short. No conditions. -/
import Derived.Test.YtfknclimoihfdaaGreatDoorGFdc26
open Go.RowKit
set_option maxRecDepth 100000
namespace Go.Proofs.YtfknclimoihfdaaGreatDoor
theorem cmpR_same {a b : Rat} (h : a = b) : cmpR a b = 0 := by
  subst h
  unfold cmpR
  rw [if_neg Rat.lt_irrefl, if_neg Rat.lt_irrefl]
def QRv (W : World) (sg : Bool) (r : Rat) (e : Ending) (w' : World) : Prop := ∃ A c A' c', e = .returned (.agg #[.bool sg, .slice A (dl r.num.natAbs) c, .slice A' (dl r.den) c']) ∧ ZA w' sg A (dl r.num.natAbs) c r.num ∧ Nm w' A' (dl r.den) c' r.den ∧ Hid (Below W.heap.size W w')
def StrV (W : World) (s : ByteArray) (e : Ending) (w' : World) : Prop := e = .returned (.string s) ∧ Hid (Below W.heap.size W w')
theorem bd_inv2 {r : Rat} {K : Nat} (h : Bd r K) (h0 : r ≠ 0) : Bd r⁻¹ K := by
  have hn : r.num ≠ 0 := fun e => h0 (Rat.num_eq_zero.1 e)
  refine ⟨?_, ?_⟩
  · rw [Rat.num_inv, Int.natAbs_mul, Int.natAbs_sign_of_ne_zero hn, Nat.one_mul, Int.natAbs_natCast]; exact h.2
  · rw [Rat.den_inv, if_neg hn]; exact h.1
theorem no_slash_dec (m : Nat) : ¬ (47 : UInt8) ∈ decL m := by
  intro h
  have h1 := (numL_decL m).2
  unfold digB at h1
  rw [Bool.and_eq_true] at h1
  have h2 := List.all_eq_true.1 h1.2 _ h
  exact absurd h2 (by decide)
theorem no_slash_decZ (z : Int) : ¬ (47 : UInt8) ∈ decZ z := by
  unfold decZ
  by_cases hn : z < 0
  · rw [if_pos hn]
    intro h
    rcases List.mem_cons.1 h with h | h
    · exact absurd h (by decide)
    · exact no_slash_dec _ h
  · rw [if_neg hn]; exact no_slash_dec _
/-- A fraction's text is read as it. -/
theorem rparse_back {W : World} {t : ByteArray} {r : Rat} {K : Nat} (ht : t.data.toList = decQ r) (hb : Bd r K) (_h0 : 0 < K) (hK : K ≤ 4000) : Calls Tryz.prog 13 #[.string t] W (OfYes W r) := by
  have l1 := decZ_bd hb.1
  have l2 := dec_bd hb.2
  have l3 := dec_bd hb.1
  unfold decQ at ht
  by_cases hd : r.den = 1
  · rw [if_pos hd] at ht
    refine rparse_int (v := r.num) (by rw [size_list, ht]; omega) (by rw [ht]; exact no_slash_decZ _) (fun W' => zparse_back W' ht (by omega)) (dl_bd2 hb.1 (by omega)) ?_
    have := Rat.mkRat_self r
    rwa [hd] at this
  · rw [if_neg hd] at ht
    refine rparse_frac (t := ⟨(decZ r.num).toArray⟩) (u := ⟨(decL r.den).toArray⟩) (v := r.num) (d := r.den) (by rw [size_list, ht, List.length_append, List.length_cons]; omega) (by rw [ht]) (no_slash_decZ _) (fun W' => zparse_back W' rfl (by omega)) (numL_decL _).2 (numL_decL _).1 r.den_pos (dl_bd2 hb.1 (by omega)) (dl_bd2 hb.2 (by omega)) (Rat.mkRat_self r)
section
variable {b0 b1 b2 : Bool} {A A' B B' C C' : Option Addr} {n c n' c' m d m' d' k e k' e' : Nat} {ra rb rc : Rat}
set_option maxHeartbeats 16000000 in
theorem rfield_some (w : World) (ha : QA w b0 A n c A' n' c' ra 12) (hb : QA w b1 B m d B' m' d' rb 12) (hc : QA w b2 C k e C' k' e' rc 12)
    (CLa : ∀ W, Calls Tryz.prog 20 #[.agg #[.bool b0, .slice A n c, .slice A' n' c']] W (BoolR W false)) (CLb : ∀ W, Calls Tryz.prog 20 #[.agg #[.bool b1, .slice B m d, .slice B' m' d']] W (BoolR W false)) (CLc : ∀ W, Calls Tryz.prog 20 #[.agg #[.bool b2, .slice C k e, .slice C' k' e']] W (BoolR W false))
    (CGa : ∀ W, Bel w W → Calls Tryz.prog 17 #[.agg #[.bool b0, .slice A n c, .slice A' n' c']] W (RetB W true)) (CGb : ∀ W, Bel w W → Calls Tryz.prog 17 #[.agg #[.bool b1, .slice B m d, .slice B' m' d']] W (RetB W true)) (CGc : ∀ W, Bel w W → Calls Tryz.prog 17 #[.agg #[.bool b2, .slice C k e, .slice C' k' e']] W (RetB W true)) (h0 : ra ≠ 0) :
    Calls Tryz.prog 5 #[.agg #[.bool b0, .slice A n c, .slice A' n' c'], .agg #[.bool b1, .slice B m d, .slice B' m' d'], .agg #[.bool b2, .slice C k e, .slice C' k' e']] w fun e w' => e = .returned (.bool true) ∧ Below w.heap.size w w' := by
  have Bpa : Bd ra 12 := qa_bd ha (by decide)
  have Bpb : Bd rb 12 := qa_bd hb (by decide)
  have Bpc : Bd rc 12 := qa_bd hc (by decide)
  obtain ⟨s1, hs1⟩ : ∃ x : Rat, x = rb + rc := ⟨_, rfl⟩
  obtain ⟨Ss1, hSs1⟩ : ∃ s, s = decide (s1.num < 0) := ⟨_, rfl⟩
  have Bs1 : Bd s1 25 := by rw [hs1]; exact Bd.add (K := 12) (Bpb.more (by decide)) (Bpc.more (by decide))
  obtain ⟨m1, hm1⟩ : ∃ x : Rat, x = ra * s1 := ⟨_, rfl⟩
  obtain ⟨Sm1, hSm1⟩ : ∃ s, s = decide (m1.num < 0) := ⟨_, rfl⟩
  have Bm1 : Bd m1 50 := by rw [hm1]; exact Bd.mul (K := 25) (Bpa.more (by decide)) (Bs1.more (by decide))
  obtain ⟨m2, hm2⟩ : ∃ x : Rat, x = ra * rb := ⟨_, rfl⟩
  obtain ⟨Sm2, hSm2⟩ : ∃ s, s = decide (m2.num < 0) := ⟨_, rfl⟩
  have Bm2 : Bd m2 24 := by rw [hm2]; exact Bd.mul (K := 12) (Bpa.more (by decide)) (Bpb.more (by decide))
  obtain ⟨m3, hm3⟩ : ∃ x : Rat, x = ra * rc := ⟨_, rfl⟩
  obtain ⟨Sm3, hSm3⟩ : ∃ s, s = decide (m3.num < 0) := ⟨_, rfl⟩
  have Bm3 : Bd m3 24 := by rw [hm3]; exact Bd.mul (K := 12) (Bpa.more (by decide)) (Bpc.more (by decide))
  obtain ⟨s2, hs2⟩ : ∃ x : Rat, x = m2 + m3 := ⟨_, rfl⟩
  obtain ⟨Ss2, hSs2⟩ : ∃ s, s = decide (s2.num < 0) := ⟨_, rfl⟩
  have Bs2 : Bd s2 49 := by rw [hs2]; exact Bd.add (K := 24) (Bm2.more (by decide)) (Bm3.more (by decide))
  obtain ⟨s3, hs3⟩ : ∃ x : Rat, x = ra + rb := ⟨_, rfl⟩
  obtain ⟨Ss3, hSs3⟩ : ∃ s, s = decide (s3.num < 0) := ⟨_, rfl⟩
  have Bs3 : Bd s3 25 := by rw [hs3]; exact Bd.add (K := 12) (Bpa.more (by decide)) (Bpb.more (by decide))
  obtain ⟨s4, hs4⟩ : ∃ x : Rat, x = s3 + rc := ⟨_, rfl⟩
  obtain ⟨Ss4, hSs4⟩ : ∃ s, s = decide (s4.num < 0) := ⟨_, rfl⟩
  have Bs4 : Bd s4 51 := by rw [hs4]; exact Bd.add (K := 25) (Bs3.more (by decide)) (Bpc.more (by decide))
  obtain ⟨s5, hs5⟩ : ∃ x : Rat, x = ra + s1 := ⟨_, rfl⟩
  obtain ⟨Ss5, hSs5⟩ : ∃ s, s = decide (s5.num < 0) := ⟨_, rfl⟩
  have Bs5 : Bd s5 51 := by rw [hs5]; exact Bd.add (K := 25) (Bpa.more (by decide)) (Bs1.more (by decide))
  obtain ⟨n1, hn1⟩ : ∃ x : Rat, x = -ra := ⟨_, rfl⟩
  obtain ⟨Sn1, hSn1⟩ : ∃ s, s = decide (n1.num < 0) := ⟨_, rfl⟩
  have Bn1 : Bd n1 12 := by rw [hn1]; exact Bd.neg Bpa
  obtain ⟨z0, hz0⟩ : ∃ x : Rat, x = ra + n1 := ⟨_, rfl⟩
  obtain ⟨Sz0, hSz0⟩ : ∃ s, s = decide (z0.num < 0) := ⟨_, rfl⟩
  have Bz0 : Bd z0 25 := by rw [hz0]; exact Bd.add (K := 12) (Bpa.more (by decide)) (Bn1.more (by decide))
  have K1 : Hid (∀ W, Bel w W → Calls Tryz.prog 30 #[.agg #[.bool b1, .slice B m d, .slice B' m' d'], .agg #[.bool b2, .slice C k e, .slice C' k' e']] W (QRv W Ss1 s1)) := fun W h => by
    rw [hSs1, hs1]
    exact radd_h (K := 12) ((hb.up h).more (by decide)) ((hc.up h).more (by decide)) (by decide) (by decide)
  have K2 : Hid (∀ W Ds11 Ds12 Ds13 Ds14 Ds15 Ds16, Bel w W → ZA W Ss1 Ds11 Ds12 Ds13 s1.num → Nm W Ds14 Ds15 Ds16 s1.den → Calls Tryz.prog 32 #[.agg #[.bool b0, .slice A n c, .slice A' n' c'], .agg #[.bool Ss1, .slice Ds11 Ds12 Ds13, .slice Ds14 Ds15 Ds16]] W (QRv W Sm1 m1)) := fun W Ds11 Ds12 Ds13 Ds14 Ds15 Ds16 h zs1 ns1 => by
    rw [hSm1, hm1]
    exact rmul_h (K := 25) ((ha.up h).more (by decide)) ((qa_of zs1 ns1 Bs1).more (by decide)) (by decide) (by decide)
  have K3 : Hid (∀ W, Bel w W → Calls Tryz.prog 32 #[.agg #[.bool b0, .slice A n c, .slice A' n' c'], .agg #[.bool b1, .slice B m d, .slice B' m' d']] W (QRv W Sm2 m2)) := fun W h => by
    rw [hSm2, hm2]
    exact rmul_h (K := 12) ((ha.up h).more (by decide)) ((hb.up h).more (by decide)) (by decide) (by decide)
  have K4 : Hid (∀ W, Bel w W → Calls Tryz.prog 32 #[.agg #[.bool b0, .slice A n c, .slice A' n' c'], .agg #[.bool b2, .slice C k e, .slice C' k' e']] W (QRv W Sm3 m3)) := fun W h => by
    rw [hSm3, hm3]
    exact rmul_h (K := 12) ((ha.up h).more (by decide)) ((hc.up h).more (by decide)) (by decide) (by decide)
  have K5 : Hid (∀ W Dm21 Dm22 Dm23 Dm24 Dm25 Dm26 Dm31 Dm32 Dm33 Dm34 Dm35 Dm36, Bel w W → ZA W Sm2 Dm21 Dm22 Dm23 m2.num → Nm W Dm24 Dm25 Dm26 m2.den → ZA W Sm3 Dm31 Dm32 Dm33 m3.num → Nm W Dm34 Dm35 Dm36 m3.den → Calls Tryz.prog 30 #[.agg #[.bool Sm2, .slice Dm21 Dm22 Dm23, .slice Dm24 Dm25 Dm26], .agg #[.bool Sm3, .slice Dm31 Dm32 Dm33, .slice Dm34 Dm35 Dm36]] W (QRv W Ss2 s2)) := fun W Dm21 Dm22 Dm23 Dm24 Dm25 Dm26 Dm31 Dm32 Dm33 Dm34 Dm35 Dm36 h zm2 nm2 zm3 nm3 => by
    rw [hSs2, hs2]
    exact radd_h (K := 24) ((qa_of zm2 nm2 Bm2).more (by decide)) ((qa_of zm3 nm3 Bm3).more (by decide)) (by decide) (by decide)
  have K6 : Hid (∀ W Dm11 Dm12 Dm13 Dm14 Dm15 Dm16 Ds21 Ds22 Ds23 Ds24 Ds25 Ds26, Bel w W → ZA W Sm1 Dm11 Dm12 Dm13 m1.num → Nm W Dm14 Dm15 Dm16 m1.den → ZA W Ss2 Ds21 Ds22 Ds23 s2.num → Nm W Ds24 Ds25 Ds26 s2.den → Calls Tryz.prog 18 #[.agg #[.bool Sm1, .slice Dm11 Dm12 Dm13, .slice Dm14 Dm15 Dm16], .agg #[.bool Ss2, .slice Ds21 Ds22 Ds23, .slice Ds24 Ds25 Ds26]] W (IntPost W 0)) := fun W Dm11 Dm12 Dm13 Dm14 Dm15 Dm16 Ds21 Ds22 Ds23 Ds24 Ds25 Ds26 h zm1 nm1 zs2 ns2 => by
    rw [show (0 : Int) = cmpR m1 s2 from (cmpR_same (by rw [hm1, hs2, hs1, hm2, hm3]; exact Rat.mul_add ra rb rc)).symm]
    exact rcmp_h (K := 50) ((qa_of zm1 nm1 Bm1).more (by decide)) ((qa_of zs2 ns2 Bs2).more (by decide)) (by decide) (by decide)
  have K7 : Hid (∀ W, Bel w W → Calls Tryz.prog 30 #[.agg #[.bool b0, .slice A n c, .slice A' n' c'], .agg #[.bool b1, .slice B m d, .slice B' m' d']] W (QRv W Ss3 s3)) := fun W h => by
    rw [hSs3, hs3]
    exact radd_h (K := 12) ((ha.up h).more (by decide)) ((hb.up h).more (by decide)) (by decide) (by decide)
  have K8 : Hid (∀ W Ds31 Ds32 Ds33 Ds34 Ds35 Ds36, Bel w W → ZA W Ss3 Ds31 Ds32 Ds33 s3.num → Nm W Ds34 Ds35 Ds36 s3.den → Calls Tryz.prog 30 #[.agg #[.bool Ss3, .slice Ds31 Ds32 Ds33, .slice Ds34 Ds35 Ds36], .agg #[.bool b2, .slice C k e, .slice C' k' e']] W (QRv W Ss4 s4)) := fun W Ds31 Ds32 Ds33 Ds34 Ds35 Ds36 h zs3 ns3 => by
    rw [hSs4, hs4]
    exact radd_h (K := 25) ((qa_of zs3 ns3 Bs3).more (by decide)) ((hc.up h).more (by decide)) (by decide) (by decide)
  have K9 : Hid (∀ W, Bel w W → Calls Tryz.prog 30 #[.agg #[.bool b1, .slice B m d, .slice B' m' d'], .agg #[.bool b2, .slice C k e, .slice C' k' e']] W (QRv W Ss1 s1)) := fun W h => by
    rw [hSs1, hs1]
    exact radd_h (K := 12) ((hb.up h).more (by decide)) ((hc.up h).more (by decide)) (by decide) (by decide)
  have K10 : Hid (∀ W Ds11 Ds12 Ds13 Ds14 Ds15 Ds16, Bel w W → ZA W Ss1 Ds11 Ds12 Ds13 s1.num → Nm W Ds14 Ds15 Ds16 s1.den → Calls Tryz.prog 30 #[.agg #[.bool b0, .slice A n c, .slice A' n' c'], .agg #[.bool Ss1, .slice Ds11 Ds12 Ds13, .slice Ds14 Ds15 Ds16]] W (QRv W Ss5 s5)) := fun W Ds11 Ds12 Ds13 Ds14 Ds15 Ds16 h zs1 ns1 => by
    rw [hSs5, hs5]
    exact radd_h (K := 25) ((ha.up h).more (by decide)) ((qa_of zs1 ns1 Bs1).more (by decide)) (by decide) (by decide)
  have K11 : Hid (∀ W Ds41 Ds42 Ds43 Ds44 Ds45 Ds46 Ds51 Ds52 Ds53 Ds54 Ds55 Ds56, Bel w W → ZA W Ss4 Ds41 Ds42 Ds43 s4.num → Nm W Ds44 Ds45 Ds46 s4.den → ZA W Ss5 Ds51 Ds52 Ds53 s5.num → Nm W Ds54 Ds55 Ds56 s5.den → Calls Tryz.prog 18 #[.agg #[.bool Ss4, .slice Ds41 Ds42 Ds43, .slice Ds44 Ds45 Ds46], .agg #[.bool Ss5, .slice Ds51 Ds52 Ds53, .slice Ds54 Ds55 Ds56]] W (IntPost W 0)) := fun W Ds41 Ds42 Ds43 Ds44 Ds45 Ds46 Ds51 Ds52 Ds53 Ds54 Ds55 Ds56 h zs4 ns4 zs5 ns5 => by
    rw [show (0 : Int) = cmpR s4 s5 from (cmpR_same (by rw [hs4, hs5, hs3, hs1]; exact Rat.add_assoc ra rb rc)).symm]
    exact rcmp_h (K := 51) ((qa_of zs4 ns4 Bs4).more (by decide)) ((qa_of zs5 ns5 Bs5).more (by decide)) (by decide) (by decide)
  have K12 : Hid (∀ W, Bel w W → Calls Tryz.prog 28 #[.agg #[.bool b0, .slice A n c, .slice A' n' c']] W (QRv W Sn1 n1)) := fun W h => by
    rw [hSn1, hn1]
    exact rneg_h (K := 12) ((ha.up h).more (by decide)) (by decide) (by decide)
  have K13 : Hid (∀ W Dn11 Dn12 Dn13 Dn14 Dn15 Dn16, Bel w W → ZA W Sn1 Dn11 Dn12 Dn13 n1.num → Nm W Dn14 Dn15 Dn16 n1.den → Calls Tryz.prog 30 #[.agg #[.bool b0, .slice A n c, .slice A' n' c'], .agg #[.bool Sn1, .slice Dn11 Dn12 Dn13, .slice Dn14 Dn15 Dn16]] W (QRv W Sz0 z0)) := fun W Dn11 Dn12 Dn13 Dn14 Dn15 Dn16 h zn1 nn1 => by
    rw [hSz0, hz0]
    exact radd_h (K := 12) ((ha.up h).more (by decide)) ((qa_of zn1 nn1 Bn1).more (by decide)) (by decide) (by decide)
  have K14 : Hid (∀ W Dz01 Dz02 Dz03 Dz04 Dz05 Dz06, Bel w W → ZA W Sz0 Dz01 Dz02 Dz03 z0.num → Nm W Dz04 Dz05 Dz06 z0.den → Calls Tryz.prog 19 #[.agg #[.bool Sz0, .slice Dz01 Dz02 Dz03, .slice Dz04 Dz05 Dz06]] W (IntPost W 0)) := fun W Dz01 Dz02 Dz03 Dz04 Dz05 Dz06 h zz0 nz0 => by
    exact rsign_h (K := 25) ((qa_of zz0 nz0 Bz0).more (by decide)) (by decide) (by rw [hz0, hn1, Rat.add_neg_cancel]; rfl)
  obtain ⟨tx, htx⟩ : ∃ t : ByteArray, t.data.toList = decQ ra := ⟨⟨(decQ ra).toArray⟩, rfl⟩
  obtain ⟨sg, hsg⟩ : ∃ s, s = decide (ra.num < 0) := ⟨_, rfl⟩
  have Ba : Bd ra 12 := qa_bd ha (by decide)
  have CT : Hid (∀ W, Bel w W → Calls Tryz.prog 16 #[.agg #[.bool b0, .slice A n c, .slice A' n' c']] W (StrV W tx)) := fun W h => (rtext_h (ha.up h) (by decide) (by decide)).mono fun _ _ g => str_of g htx
  have CPa : Hid (∀ W, Calls Tryz.prog 13 #[.string tx] W (OfYs2 W sg ra)) := fun W => by rw [hsg]; exact rparse_back htx Ba (by decide) (by decide)
  have CE : Hid (∀ W D1 D2 D3 D4 D5 D6, Bel w W → ZA W sg D1 D2 D3 ra.num → Nm W D4 D5 D6 ra.den → Calls Tryz.prog 18 #[.agg #[.bool sg, .slice D1 D2 D3, .slice D4 D5 D6], .agg #[.bool b0, .slice A n c, .slice A' n' c']] W (IntPost W 0)) := fun W D1 D2 D3 D4 D5 D6 h h1 h2 => by
    rw [show (0 : Int) = cmpR ra ra from (cmpR_same rfl).symm]
    exact rcmp_h (K := 12) (qa_of h1 h2 Ba) (ha.up h) (by decide) (by decide)
  obtain ⟨i, hi⟩ : ∃ x : Rat, x = ra⁻¹ := ⟨_, rfl⟩
  obtain ⟨si, hsi⟩ : ∃ s, s = decide (i.num < 0) := ⟨_, rfl⟩
  obtain ⟨u, hu⟩ : ∃ x : Rat, x = ra * i := ⟨_, rfl⟩
  obtain ⟨su, hsu⟩ : ∃ s, s = decide (u.num < 0) := ⟨_, rfl⟩
  obtain ⟨j, hj⟩ : ∃ x : Rat, x = ((1 : Int) : Rat) := ⟨_, rfl⟩
  obtain ⟨sj, hsj⟩ : ∃ s, s = decide (j.num < 0) := ⟨_, rfl⟩
  obtain ⟨vs, hvs, hvs0⟩ : ∃ v, ra.num.sign = v ∧ v ≠ 0 := ⟨_, rfl, fun h => h0 (Rat.num_eq_zero.1 (Int.sign_eq_zero_iff_zero.1 h))⟩
  have Bi : Bd i 12 := by rw [hi]; exact bd_inv2 Ba h0
  have Bu : Bd u 24 := by rw [hu]; exact Ba.mul Bi
  have Bj : Bd j 24 := by rw [hj]; exact bd_int (w32_two (by decide) (by decide)) (by decide)
  have CI : Hid (∀ W, Bel w W → Calls Tryz.prog 10 #[.agg #[.bool b0, .slice A n c, .slice A' n' c']] W (OfYs2 W si i)) := fun W h => by rw [hsi, hi]; exact inv_yes (ha.up h) (by decide) (by decide) h0
  have CSg : Hid (∀ W, Bel w W → Calls Tryz.prog 19 #[.agg #[.bool b0, .slice A n c, .slice A' n' c']] W (IntPost W vs)) := fun W h => rsign_h (ha.up h) (by decide) hvs
  have CMu : Hid (∀ W D1 D2 D3 D4 D5 D6, Bel w W → ZA W si D1 D2 D3 i.num → Nm W D4 D5 D6 i.den → Calls Tryz.prog 32 #[.agg #[.bool b0, .slice A n c, .slice A' n' c'], .agg #[.bool si, .slice D1 D2 D3, .slice D4 D5 D6]] W (QRv W su u)) := fun W D1 D2 D3 D4 D5 D6 h h1 h2 => by
    rw [hsu, hu]
    exact rmul_h (K := 12) (ha.up h) (qa_of h1 h2 Bi) (by decide) (by decide)
  have CJ : Hid (∀ W, Calls Tryz.prog 11 #[.int .i64 1] W (QRv W sj j)) := fun W => by rw [hsj, hj]; exact int_h (by decide) (by decide)
  have CUJ : Hid (∀ W D1 n1 c1 D2 n2 c2 D3 n3 c3 D4 n4 c4, ZA W su D1 n1 c1 u.num → Nm W D2 n2 c2 u.den → ZA W sj D3 n3 c3 j.num → Nm W D4 n4 c4 j.den → Calls Tryz.prog 18 #[.agg #[.bool su, .slice D1 n1 c1, .slice D2 n2 c2], .agg #[.bool sj, .slice D3 n3 c3, .slice D4 n4 c4]] W (IntPost W 0)) := fun W D1 n1 c1 D2 n2 c2 D3 n3 c3 D4 n4 c4 g1 g2 g3 g4 => by
    rw [show (0 : Int) = cmpR u j from (cmpR_same (by rw [hu, hi, hj]; exact Rat.mul_inv_cancel ra h0)).symm]
    exact rcmp_h (K := 24) (qa_of g1 g2 Bu) (qa_of g3 g4 Bj) (by decide) (by decide)
  have CGi : Hid (∀ W B e B' e', ZA W si B (dl i.num.natAbs) e i.num → Nm W B' (dl i.den) e' i.den → Calls Tryz.prog 17 #[.agg #[.bool si, .slice B (dl i.num.natAbs) e, .slice B' (dl i.den) e']] W (RetB W true)) := fun W B e B' e' h1 h2 => by
    rw [hsi] at h1 ⊢
    exact rgood_yes h1 h2 Bi (by decide)
  have vs1 : (vs == 0) = false := by rw [beq_eq_false_iff_ne]; exact hvs0
  have vs2 : ¬ vs = 0 := hvs0
  have vs3 : (vs != 0) = true := by rw [bne_iff_ne]; exact hvs0
  clear hi hsi hu hsu hj hsj hvs hvs0 Bi Bu Bj h0
  clear ha hb hc Bpa Bpb Bpc htx hsg Ba hs1 hSs1 Bs1 hm1 hSm1 Bm1 hm2 hSm2 Bm2 hm3 hSm3 Bm3 hs2 hSs2 Bs2 hs3 hSs3 Bs3 hs4 hSs4 Bs4 hs5 hSs5 Bs5 hn1 hSn1 Bn1 hz0 hSz0 Bz0
  have CLa' := hide CLa
  have CLb' := hide CLb
  have CLc' := hide CLc
  have CGa' := hide CGa
  have CGb' := hide CGb
  have CGc' := hide CGc
  clear CLa CLb CLc CGa CGb CGc
  have CLa := CLa'
  have CLb := CLb'
  have CLc := CLc'
  have CGa := CGa'
  have CGb := CGb'
  have CGc := CGc'
  clear CLa' CLb' CLc' CGa' CGb' CGc'
  have HB := Bel.refl w
  go_enter Tryz.func5, Tryz.ntmps5
  go_wp2_with (first | (go_at_call 6; (with_reducible refine (awake3_any _).mono ?_); rintro e w1 ⟨rfl, hbk⟩; (with_reducible (have HA : At w1 w.heap.size [.bool b0, .slice A n c, .slice A' n' c'] := At.up ((at_new0 _ _ _).al _ |>.al _) hbk; have HD : At w1 (w.heap.size + 1) [.bool b1, .slice B m d, .slice B' m' d'] := At.up ((at_new1 _ _ _ _).al _) hbk; have HE : At w1 (w.heap.size + 1 + 1) [.bool b2, .slice C k e, .slice C' k' e'] := At.up (at_new2 _ _ _ _ _) hbk; replace HB := (((HB.al _).al _).al _).up hbk)); have ha_0 := HA.c0; have ha_1 := HA.c1; have ha_2 := HA.c2; have ha_l := HA.lt; have hd_0 := HD.c0; have hd_1 := HD.c1; have hd_2 := HD.c2; have hd_l := HD.lt; have he_0 := HE.c0; have he_1 := HE.c1; have he_2 := HE.c2; have he_l := HE.lt) | (go_at_call 20; (with_reducible refine (CLa.out _).mono ?_); rintro e w2a ⟨rfl, hbk⟩; (with_reducible (replace HB := HB.up hbk; replace HA := HA.up hbk; replace HD := HD.up hbk; replace HE := HE.up hbk)); clear ha_0 ha_1 ha_2 ha_l hd_0 hd_1 hd_2 hd_l he_0 he_1 he_2 he_l; have ha_0 := HA.c0; have ha_1 := HA.c1; have ha_2 := HA.c2; have ha_l := HA.lt; have hd_0 := HD.c0; have hd_1 := HD.c1; have hd_2 := HD.c2; have hd_l := HD.lt; have he_0 := HE.c0; have he_1 := HE.c1; have he_2 := HE.c2; have he_l := HE.lt) | (go_at_call 20; (with_reducible refine (CLb.out _).mono ?_); rintro e w2b ⟨rfl, hbk⟩; (with_reducible (replace HB := HB.up hbk; replace HA := HA.up hbk; replace HD := HD.up hbk; replace HE := HE.up hbk)); clear ha_0 ha_1 ha_2 ha_l hd_0 hd_1 hd_2 hd_l he_0 he_1 he_2 he_l; have ha_0 := HA.c0; have ha_1 := HA.c1; have ha_2 := HA.c2; have ha_l := HA.lt; have hd_0 := HD.c0; have hd_1 := HD.c1; have hd_2 := HD.c2; have hd_l := HD.lt; have he_0 := HE.c0; have he_1 := HE.c1; have he_2 := HE.c2; have he_l := HE.lt) | (go_at_call 20; (with_reducible refine (CLc.out _).mono ?_); rintro e w2c ⟨rfl, hbk⟩; (with_reducible (replace HB := HB.up hbk; replace HA := HA.up hbk; replace HD := HD.up hbk; replace HE := HE.up hbk)); clear ha_0 ha_1 ha_2 ha_l hd_0 hd_1 hd_2 hd_l he_0 he_1 he_2 he_l; have ha_0 := HA.c0; have ha_1 := HA.c1; have ha_2 := HA.c2; have ha_l := HA.lt; have hd_0 := HD.c0; have hd_1 := HD.c1; have hd_2 := HD.c2; have hd_l := HD.lt; have he_0 := HE.c0; have he_1 := HE.c1; have he_2 := HE.c2; have he_l := HE.lt) | (go_at_call 17; (with_reducible refine (CGa.out _ HB).mono ?_); rintro e w3a ⟨rfl, hbk⟩; replace hbk := Bel.hid hbk; (with_reducible (replace HB := HB.up hbk; replace HA := HA.up hbk; replace HD := HD.up hbk; replace HE := HE.up hbk)); clear ha_0 ha_1 ha_2 ha_l hd_0 hd_1 hd_2 hd_l he_0 he_1 he_2 he_l; have ha_0 := HA.c0; have ha_1 := HA.c1; have ha_2 := HA.c2; have ha_l := HA.lt; have hd_0 := HD.c0; have hd_1 := HD.c1; have hd_2 := HD.c2; have hd_l := HD.lt; have he_0 := HE.c0; have he_1 := HE.c1; have he_2 := HE.c2; have he_l := HE.lt) | (go_at_call 17; (with_reducible refine (CGb.out _ HB).mono ?_); rintro e w3b ⟨rfl, hbk⟩; replace hbk := Bel.hid hbk; (with_reducible (replace HB := HB.up hbk; replace HA := HA.up hbk; replace HD := HD.up hbk; replace HE := HE.up hbk)); clear ha_0 ha_1 ha_2 ha_l hd_0 hd_1 hd_2 hd_l he_0 he_1 he_2 he_l; have ha_0 := HA.c0; have ha_1 := HA.c1; have ha_2 := HA.c2; have ha_l := HA.lt; have hd_0 := HD.c0; have hd_1 := HD.c1; have hd_2 := HD.c2; have hd_l := HD.lt; have he_0 := HE.c0; have he_1 := HE.c1; have he_2 := HE.c2; have he_l := HE.lt) | (go_at_call 17; (with_reducible refine (CGc.out _ HB).mono ?_); rintro e w3c ⟨rfl, hbk⟩; replace hbk := Bel.hid hbk; (with_reducible (replace HB := HB.up hbk; replace HA := HA.up hbk; replace HD := HD.up hbk; replace HE := HE.up hbk)); clear ha_0 ha_1 ha_2 ha_l hd_0 hd_1 hd_2 hd_l he_0 he_1 he_2 he_l; have ha_0 := HA.c0; have ha_1 := HA.c1; have ha_2 := HA.c2; have ha_l := HA.lt; have hd_0 := HD.c0; have hd_1 := HD.c1; have hd_2 := HD.c2; have hd_l := HD.lt; have he_0 := HE.c0; have he_1 := HE.c1; have he_2 := HE.c2; have he_l := HE.lt) | fail)
  go_region_held3 (fun w' => w'.cell? ⟨w.heap.size, 0, none⟩ = some (.bool b0) ∧ w'.cell? ⟨w.heap.size, 1, none⟩ = some (.slice A n c) ∧ w'.cell? ⟨w.heap.size, 2, none⟩ = some (.slice A' n' c') ∧ w'.cell? ⟨w.heap.size + 1, 0, none⟩ = some (.bool b1) ∧ w'.cell? ⟨w.heap.size + 1, 1, none⟩ = some (.slice B m d) ∧ w'.cell? ⟨w.heap.size + 1, 2, none⟩ = some (.slice B' m' d') ∧ w'.cell? ⟨w.heap.size + 1 + 1, 0, none⟩ = some (.bool b2) ∧ w'.cell? ⟨w.heap.size + 1 + 1, 1, none⟩ = some (.slice C k e) ∧ w'.cell? ⟨w.heap.size + 1 + 1, 2, none⟩ = some (.slice C' k' e'))
    (first | with_reducible exact ⟨HA.dr.c0, HA.dr.c1, HA.dr.c2, HD.dr.c0, HD.dr.c1, HD.dr.c2, HE.dr.c0, HE.dr.c1, HE.dr.c2⟩ | with_reducible exact ⟨HA.c0, HA.c1, HA.c2, HD.c0, HD.c1, HD.c2, HE.c0, HE.c1, HE.c2⟩)
    (first | (go_at_call 30; (with_reducible refine (K9.out _ HB).mono ?_); rintro e v8 ⟨p81, p82, p83, p84, rfl, zs1, ns1, hbk⟩; (with_reducible (replace HB := HB.up hbk; replace HA := HA.up hbk; replace HD := HD.up hbk; replace HE := HE.up hbk; replace zs4 := zs4.up hbk; replace ns4 := ns4.up hbk))) | (go_at_call 30; (with_reducible refine (K1.out _ HB.dr).mono ?_); rintro e v0 ⟨p01, p02, p03, p04, rfl, zs1, ns1, hbk⟩; (with_reducible (replace HB := HB.dr.up hbk; replace HA := HA.dr.up hbk; replace HD := HD.dr.up hbk; replace HE := HE.dr.up hbk))) | (go_at_call 32; (with_reducible refine (K2.out _ _ _ _ _ _ _ HB zs1 ns1).mono ?_); rintro e v1 ⟨p11, p12, p13, p14, rfl, zm1, nm1, hbk⟩; (with_reducible (replace HB := HB.up hbk; replace HA := HA.up hbk; replace HD := HD.up hbk; replace HE := HE.up hbk))) | (go_at_call 32; (with_reducible refine (K3.out _ HB).mono ?_); rintro e v2 ⟨p21, p22, p23, p24, rfl, zm2, nm2, hbk⟩; (with_reducible (replace HB := HB.up hbk; replace HA := HA.up hbk; replace HD := HD.up hbk; replace HE := HE.up hbk; replace zm1 := zm1.up hbk; replace nm1 := nm1.up hbk))) | (go_at_call 32; (with_reducible refine (K4.out _ HB).mono ?_); rintro e v3 ⟨p31, p32, p33, p34, rfl, zm3, nm3, hbk⟩; (with_reducible (replace HB := HB.up hbk; replace HA := HA.up hbk; replace HD := HD.up hbk; replace HE := HE.up hbk; replace zm1 := zm1.up hbk; replace nm1 := nm1.up hbk; replace zm2 := zm2.up hbk; replace nm2 := nm2.up hbk))) | (go_at_call 30; (with_reducible refine (K5.out _ _ _ _ _ _ _ _ _ _ _ _ _ HB zm2 nm2 zm3 nm3).mono ?_); rintro e v4 ⟨p41, p42, p43, p44, rfl, zs2, ns2, hbk⟩; (with_reducible (replace HB := HB.up hbk; replace HA := HA.up hbk; replace HD := HD.up hbk; replace HE := HE.up hbk; replace zm1 := zm1.up hbk; replace nm1 := nm1.up hbk))) | (go_at_call 18; (with_reducible refine (K6.out _ _ _ _ _ _ _ _ _ _ _ _ _ HB zm1 nm1 zs2 ns2).mono ?_); rintro e v5 ⟨rfl, hbk⟩; (with_reducible (replace HB := HB.up hbk; replace HA := HA.up hbk; replace HD := HD.up hbk; replace HE := HE.up hbk))) | (go_at_call 30; (with_reducible refine (K7.out _ HB).mono ?_); rintro e v6 ⟨p61, p62, p63, p64, rfl, zs3, ns3, hbk⟩; (with_reducible (replace HB := HB.up hbk; replace HA := HA.up hbk; replace HD := HD.up hbk; replace HE := HE.up hbk))) | (go_at_call 30; (with_reducible refine (K8.out _ _ _ _ _ _ _ HB zs3 ns3).mono ?_); rintro e v7 ⟨p71, p72, p73, p74, rfl, zs4, ns4, hbk⟩; (with_reducible (replace HB := HB.up hbk; replace HA := HA.up hbk; replace HD := HD.up hbk; replace HE := HE.up hbk))) | (go_at_call 30; (with_reducible refine (K10.out _ _ _ _ _ _ _ HB zs1 ns1).mono ?_); rintro e v9 ⟨p91, p92, p93, p94, rfl, zs5, ns5, hbk⟩; (with_reducible (replace HB := HB.up hbk; replace HA := HA.up hbk; replace HD := HD.up hbk; replace HE := HE.up hbk; replace zs4 := zs4.up hbk; replace ns4 := ns4.up hbk))) | (go_at_call 18; (with_reducible refine (K11.out _ _ _ _ _ _ _ _ _ _ _ _ _ HB zs4 ns4 zs5 ns5).mono ?_); rintro e v10 ⟨rfl, hbk⟩; (with_reducible (replace HB := HB.up hbk; replace HA := HA.up hbk; replace HD := HD.up hbk; replace HE := HE.up hbk))) | (go_at_call 28; (with_reducible refine (K12.out _ HB).mono ?_); rintro e v11 ⟨p111, p112, p113, p114, rfl, zn1, nn1, hbk⟩; (with_reducible (replace HB := HB.up hbk; replace HA := HA.up hbk; replace HD := HD.up hbk; replace HE := HE.up hbk))) | (go_at_call 30; (with_reducible refine (K13.out _ _ _ _ _ _ _ HB zn1 nn1).mono ?_); rintro e v12 ⟨p121, p122, p123, p124, rfl, zz0, nz0, hbk⟩; (with_reducible (replace HB := HB.up hbk; replace HA := HA.up hbk; replace HD := HD.up hbk; replace HE := HE.up hbk))) | (go_at_call 19; (with_reducible refine (K14.out _ _ _ _ _ _ _ HB zz0 nz0).mono ?_); rintro e v13 ⟨rfl, hbk⟩; (with_reducible (replace HB := HB.up hbk; replace HA := HA.up hbk; replace HD := HD.up hbk; replace HE := HE.up hbk)); have ha_0 := HA.c0; have ha_1 := HA.c1; have ha_2 := HA.c2; have ha_l := HA.lt; have hd_0 := HD.c0; have hd_1 := HD.c1; have hd_2 := HD.c2; have hd_l := HD.lt; have he_0 := HE.c0; have he_1 := HE.c1; have he_2 := HE.c2; have he_l := HE.lt) | fail)
  go_wp2_with (first | (go_at_call 10; (with_reducible refine (CI.out _ HB).mono ?_); rintro e wb ⟨iA, ic, iB, id, rfl, zi1, ni1, hbk⟩; (with_reducible (replace HB := HB.up hbk; replace HA := HA.up hbk)); clear ha_0 ha_1 ha_2 ha_l hd_0 hd_1 hd_2 hd_l he_0 he_1 he_2 he_l HD HE; have ha_0 := HA.c0; have ha_1 := HA.c1; have ha_2 := HA.c2; have ha_l := HA.lt) | (go_at_call 16; (with_reducible refine (CT.out _ (HB.al _)).mono ?_); rintro e wc ⟨rfl, hbk⟩; (with_reducible (have HI : At wc wb.heap.size [.bool si, .slice iA (dl i.num.natAbs) ic, .slice iB (dl i.den) id] := At.up (at_new0 _ _ _) hbk; replace HB := (HB.al _).up hbk; replace HA := (HA.al _).up hbk; replace zi1 := (zi1.al _).up hbk; replace ni1 := (ni1.al _).up hbk)); clear ha_0 ha_1 ha_2 ha_l; have ha_0 := HA.c0; have ha_1 := HA.c1; have ha_2 := HA.c2; have ha_l := HA.lt; have hi_0 := HI.c0; have hi_1 := HI.c1; have hi_2 := HI.c2; have hi_l := HI.lt) | (go_at_call 13; (with_reducible refine (CPa.out _).mono ?_); rintro e wd ⟨tA, tc, tB, td, rfl, zt, nt, hbk⟩; (with_reducible (replace HB := HB.up hbk; replace HA := HA.up hbk; replace HI := HI.up hbk; replace zi1 := zi1.up hbk; replace ni1 := ni1.up hbk)); clear ha_0 ha_1 ha_2 ha_l hi_0 hi_1 hi_2 hi_l; have ha_0 := HA.c0; have ha_1 := HA.c1; have ha_2 := HA.c2; have ha_l := HA.lt; have hi_0 := HI.c0; have hi_1 := HI.c1; have hi_2 := HI.c2; have hi_l := HI.lt) | (go_at_call 18; (with_reducible refine (CE.out _ _ _ _ _ _ _ (HB.al _) (zt.al _) (nt.al _)).mono ?_); rintro e we ⟨rfl, hbk⟩; (with_reducible (have HT : At we wd.heap.size [.bool sg, .slice tA (dl ra.num.natAbs) tc, .slice tB (dl ra.den) td] := At.up (at_new0 _ _ _) hbk; replace HB := (HB.al _).up hbk; replace HA := (HA.al _).up hbk; replace HI := (HI.al _).up hbk; replace zi1 := (zi1.al _).up hbk; replace ni1 := (ni1.al _).up hbk)); clear ha_0 ha_1 ha_2 ha_l hi_0 hi_1 hi_2 hi_l; have ha_0 := HA.c0; have ha_1 := HA.c1; have ha_2 := HA.c2; have ha_l := HA.lt; have hi_0 := HI.c0; have hi_1 := HI.c1; have hi_2 := HI.c2; have hi_l := HI.lt) | (go_at_call 19; (with_reducible refine (CSg.out _ HB).mono ?_); rintro e wf ⟨rfl, hbk⟩; (with_reducible (replace HB := HB.up hbk; replace HA := HA.up hbk; replace HI := HI.up hbk; replace zi1 := zi1.up hbk; replace ni1 := ni1.up hbk)); clear ha_0 ha_1 ha_2 ha_l hi_0 hi_1 hi_2 hi_l; have ha_0 := HA.c0; have ha_1 := HA.c1; have ha_2 := HA.c2; have ha_l := HA.lt; have hi_0 := HI.c0; have hi_1 := HI.c1; have hi_2 := HI.c2; have hi_l := HI.lt) | (go_at_call 32; (with_reducible refine (CMu.out _ _ _ _ _ _ _ HB zi1 ni1).mono ?_); rintro e wg ⟨uA, uc, uB, ud, rfl, zu, nu, hbk⟩; (with_reducible (replace HB := HB.up hbk; replace HA := HA.up hbk; replace HI := HI.up hbk; replace zi1 := zi1.up hbk; replace ni1 := ni1.up hbk)); clear ha_0 ha_1 ha_2 ha_l hi_0 hi_1 hi_2 hi_l; have ha_0 := HA.c0; have ha_1 := HA.c1; have ha_2 := HA.c2; have ha_l := HA.lt; have hi_0 := HI.c0; have hi_1 := HI.c1; have hi_2 := HI.c2; have hi_l := HI.lt) | (go_at_call 11; (with_reducible refine (CJ.out _).mono ?_); rintro e wh ⟨jA, jc, jB, jd, rfl, zj, nj, hbk⟩; (with_reducible (replace HB := HB.up hbk; replace HA := HA.up hbk; replace HI := HI.up hbk; replace zi1 := zi1.up hbk; replace ni1 := ni1.up hbk; replace zu := zu.up hbk; replace nu := nu.up hbk)); clear ha_0 ha_1 ha_2 ha_l hi_0 hi_1 hi_2 hi_l; have ha_0 := HA.c0; have ha_1 := HA.c1; have ha_2 := HA.c2; have ha_l := HA.lt; have hi_0 := HI.c0; have hi_1 := HI.c1; have hi_2 := HI.c2; have hi_l := HI.lt) | (go_at_call 18; (with_reducible refine (CUJ.out _ _ _ _ _ _ _ _ _ _ _ _ _ zu nu zj nj).mono ?_); rintro e wi ⟨rfl, hbk⟩; (with_reducible (replace HB := HB.up hbk; replace HA := HA.up hbk; replace HI := HI.up hbk; replace zi1 := zi1.up hbk; replace ni1 := ni1.up hbk)); clear ha_0 ha_1 ha_2 ha_l hi_0 hi_1 hi_2 hi_l; have ha_0 := HA.c0; have ha_1 := HA.c1; have ha_2 := HA.c2; have ha_l := HA.lt; have hi_0 := HI.c0; have hi_1 := HI.c1; have hi_2 := HI.c2; have hi_l := HI.lt) | (go_at_call 17; (with_reducible refine (CGi.out _ _ _ _ _ zi1 ni1).mono ?_); rintro e wj ⟨rfl, hbk⟩; replace hbk := Bel.hid hbk; (with_reducible (replace HB := HB.up hbk))) | fail)
  go_ret
  exact ⟨rfl, HB⟩
set_option maxHeartbeats 16000000 in
theorem rfield_none (w : World) (ha : QA w b0 A n c A' n' c' ra 12) (hb : QA w b1 B m d B' m' d' rb 12) (hc : QA w b2 C k e C' k' e' rc 12)
    (CLa : ∀ W, Calls Tryz.prog 20 #[.agg #[.bool b0, .slice A n c, .slice A' n' c']] W (BoolR W false)) (CLb : ∀ W, Calls Tryz.prog 20 #[.agg #[.bool b1, .slice B m d, .slice B' m' d']] W (BoolR W false)) (CLc : ∀ W, Calls Tryz.prog 20 #[.agg #[.bool b2, .slice C k e, .slice C' k' e']] W (BoolR W false))
    (CGa : ∀ W, Bel w W → Calls Tryz.prog 17 #[.agg #[.bool b0, .slice A n c, .slice A' n' c']] W (RetB W true)) (CGb : ∀ W, Bel w W → Calls Tryz.prog 17 #[.agg #[.bool b1, .slice B m d, .slice B' m' d']] W (RetB W true)) (CGc : ∀ W, Bel w W → Calls Tryz.prog 17 #[.agg #[.bool b2, .slice C k e, .slice C' k' e']] W (RetB W true)) (h0 : ra = 0) :
    Calls Tryz.prog 5 #[.agg #[.bool b0, .slice A n c, .slice A' n' c'], .agg #[.bool b1, .slice B m d, .slice B' m' d'], .agg #[.bool b2, .slice C k e, .slice C' k' e']] w fun e w' => e = .returned (.bool true) ∧ Below w.heap.size w w' := by
  have Bpa : Bd ra 12 := qa_bd ha (by decide)
  have Bpb : Bd rb 12 := qa_bd hb (by decide)
  have Bpc : Bd rc 12 := qa_bd hc (by decide)
  obtain ⟨s1, hs1⟩ : ∃ x : Rat, x = rb + rc := ⟨_, rfl⟩
  obtain ⟨Ss1, hSs1⟩ : ∃ s, s = decide (s1.num < 0) := ⟨_, rfl⟩
  have Bs1 : Bd s1 25 := by rw [hs1]; exact Bd.add (K := 12) (Bpb.more (by decide)) (Bpc.more (by decide))
  obtain ⟨m1, hm1⟩ : ∃ x : Rat, x = ra * s1 := ⟨_, rfl⟩
  obtain ⟨Sm1, hSm1⟩ : ∃ s, s = decide (m1.num < 0) := ⟨_, rfl⟩
  have Bm1 : Bd m1 50 := by rw [hm1]; exact Bd.mul (K := 25) (Bpa.more (by decide)) (Bs1.more (by decide))
  obtain ⟨m2, hm2⟩ : ∃ x : Rat, x = ra * rb := ⟨_, rfl⟩
  obtain ⟨Sm2, hSm2⟩ : ∃ s, s = decide (m2.num < 0) := ⟨_, rfl⟩
  have Bm2 : Bd m2 24 := by rw [hm2]; exact Bd.mul (K := 12) (Bpa.more (by decide)) (Bpb.more (by decide))
  obtain ⟨m3, hm3⟩ : ∃ x : Rat, x = ra * rc := ⟨_, rfl⟩
  obtain ⟨Sm3, hSm3⟩ : ∃ s, s = decide (m3.num < 0) := ⟨_, rfl⟩
  have Bm3 : Bd m3 24 := by rw [hm3]; exact Bd.mul (K := 12) (Bpa.more (by decide)) (Bpc.more (by decide))
  obtain ⟨s2, hs2⟩ : ∃ x : Rat, x = m2 + m3 := ⟨_, rfl⟩
  obtain ⟨Ss2, hSs2⟩ : ∃ s, s = decide (s2.num < 0) := ⟨_, rfl⟩
  have Bs2 : Bd s2 49 := by rw [hs2]; exact Bd.add (K := 24) (Bm2.more (by decide)) (Bm3.more (by decide))
  obtain ⟨s3, hs3⟩ : ∃ x : Rat, x = ra + rb := ⟨_, rfl⟩
  obtain ⟨Ss3, hSs3⟩ : ∃ s, s = decide (s3.num < 0) := ⟨_, rfl⟩
  have Bs3 : Bd s3 25 := by rw [hs3]; exact Bd.add (K := 12) (Bpa.more (by decide)) (Bpb.more (by decide))
  obtain ⟨s4, hs4⟩ : ∃ x : Rat, x = s3 + rc := ⟨_, rfl⟩
  obtain ⟨Ss4, hSs4⟩ : ∃ s, s = decide (s4.num < 0) := ⟨_, rfl⟩
  have Bs4 : Bd s4 51 := by rw [hs4]; exact Bd.add (K := 25) (Bs3.more (by decide)) (Bpc.more (by decide))
  obtain ⟨s5, hs5⟩ : ∃ x : Rat, x = ra + s1 := ⟨_, rfl⟩
  obtain ⟨Ss5, hSs5⟩ : ∃ s, s = decide (s5.num < 0) := ⟨_, rfl⟩
  have Bs5 : Bd s5 51 := by rw [hs5]; exact Bd.add (K := 25) (Bpa.more (by decide)) (Bs1.more (by decide))
  obtain ⟨n1, hn1⟩ : ∃ x : Rat, x = -ra := ⟨_, rfl⟩
  obtain ⟨Sn1, hSn1⟩ : ∃ s, s = decide (n1.num < 0) := ⟨_, rfl⟩
  have Bn1 : Bd n1 12 := by rw [hn1]; exact Bd.neg Bpa
  obtain ⟨z0, hz0⟩ : ∃ x : Rat, x = ra + n1 := ⟨_, rfl⟩
  obtain ⟨Sz0, hSz0⟩ : ∃ s, s = decide (z0.num < 0) := ⟨_, rfl⟩
  have Bz0 : Bd z0 25 := by rw [hz0]; exact Bd.add (K := 12) (Bpa.more (by decide)) (Bn1.more (by decide))
  have K1 : Hid (∀ W, Bel w W → Calls Tryz.prog 30 #[.agg #[.bool b1, .slice B m d, .slice B' m' d'], .agg #[.bool b2, .slice C k e, .slice C' k' e']] W (QRv W Ss1 s1)) := fun W h => by
    rw [hSs1, hs1]
    exact radd_h (K := 12) ((hb.up h).more (by decide)) ((hc.up h).more (by decide)) (by decide) (by decide)
  have K2 : Hid (∀ W Ds11 Ds12 Ds13 Ds14 Ds15 Ds16, Bel w W → ZA W Ss1 Ds11 Ds12 Ds13 s1.num → Nm W Ds14 Ds15 Ds16 s1.den → Calls Tryz.prog 32 #[.agg #[.bool b0, .slice A n c, .slice A' n' c'], .agg #[.bool Ss1, .slice Ds11 Ds12 Ds13, .slice Ds14 Ds15 Ds16]] W (QRv W Sm1 m1)) := fun W Ds11 Ds12 Ds13 Ds14 Ds15 Ds16 h zs1 ns1 => by
    rw [hSm1, hm1]
    exact rmul_h (K := 25) ((ha.up h).more (by decide)) ((qa_of zs1 ns1 Bs1).more (by decide)) (by decide) (by decide)
  have K3 : Hid (∀ W, Bel w W → Calls Tryz.prog 32 #[.agg #[.bool b0, .slice A n c, .slice A' n' c'], .agg #[.bool b1, .slice B m d, .slice B' m' d']] W (QRv W Sm2 m2)) := fun W h => by
    rw [hSm2, hm2]
    exact rmul_h (K := 12) ((ha.up h).more (by decide)) ((hb.up h).more (by decide)) (by decide) (by decide)
  have K4 : Hid (∀ W, Bel w W → Calls Tryz.prog 32 #[.agg #[.bool b0, .slice A n c, .slice A' n' c'], .agg #[.bool b2, .slice C k e, .slice C' k' e']] W (QRv W Sm3 m3)) := fun W h => by
    rw [hSm3, hm3]
    exact rmul_h (K := 12) ((ha.up h).more (by decide)) ((hc.up h).more (by decide)) (by decide) (by decide)
  have K5 : Hid (∀ W Dm21 Dm22 Dm23 Dm24 Dm25 Dm26 Dm31 Dm32 Dm33 Dm34 Dm35 Dm36, Bel w W → ZA W Sm2 Dm21 Dm22 Dm23 m2.num → Nm W Dm24 Dm25 Dm26 m2.den → ZA W Sm3 Dm31 Dm32 Dm33 m3.num → Nm W Dm34 Dm35 Dm36 m3.den → Calls Tryz.prog 30 #[.agg #[.bool Sm2, .slice Dm21 Dm22 Dm23, .slice Dm24 Dm25 Dm26], .agg #[.bool Sm3, .slice Dm31 Dm32 Dm33, .slice Dm34 Dm35 Dm36]] W (QRv W Ss2 s2)) := fun W Dm21 Dm22 Dm23 Dm24 Dm25 Dm26 Dm31 Dm32 Dm33 Dm34 Dm35 Dm36 h zm2 nm2 zm3 nm3 => by
    rw [hSs2, hs2]
    exact radd_h (K := 24) ((qa_of zm2 nm2 Bm2).more (by decide)) ((qa_of zm3 nm3 Bm3).more (by decide)) (by decide) (by decide)
  have K6 : Hid (∀ W Dm11 Dm12 Dm13 Dm14 Dm15 Dm16 Ds21 Ds22 Ds23 Ds24 Ds25 Ds26, Bel w W → ZA W Sm1 Dm11 Dm12 Dm13 m1.num → Nm W Dm14 Dm15 Dm16 m1.den → ZA W Ss2 Ds21 Ds22 Ds23 s2.num → Nm W Ds24 Ds25 Ds26 s2.den → Calls Tryz.prog 18 #[.agg #[.bool Sm1, .slice Dm11 Dm12 Dm13, .slice Dm14 Dm15 Dm16], .agg #[.bool Ss2, .slice Ds21 Ds22 Ds23, .slice Ds24 Ds25 Ds26]] W (IntPost W 0)) := fun W Dm11 Dm12 Dm13 Dm14 Dm15 Dm16 Ds21 Ds22 Ds23 Ds24 Ds25 Ds26 h zm1 nm1 zs2 ns2 => by
    rw [show (0 : Int) = cmpR m1 s2 from (cmpR_same (by rw [hm1, hs2, hs1, hm2, hm3]; exact Rat.mul_add ra rb rc)).symm]
    exact rcmp_h (K := 50) ((qa_of zm1 nm1 Bm1).more (by decide)) ((qa_of zs2 ns2 Bs2).more (by decide)) (by decide) (by decide)
  have K7 : Hid (∀ W, Bel w W → Calls Tryz.prog 30 #[.agg #[.bool b0, .slice A n c, .slice A' n' c'], .agg #[.bool b1, .slice B m d, .slice B' m' d']] W (QRv W Ss3 s3)) := fun W h => by
    rw [hSs3, hs3]
    exact radd_h (K := 12) ((ha.up h).more (by decide)) ((hb.up h).more (by decide)) (by decide) (by decide)
  have K8 : Hid (∀ W Ds31 Ds32 Ds33 Ds34 Ds35 Ds36, Bel w W → ZA W Ss3 Ds31 Ds32 Ds33 s3.num → Nm W Ds34 Ds35 Ds36 s3.den → Calls Tryz.prog 30 #[.agg #[.bool Ss3, .slice Ds31 Ds32 Ds33, .slice Ds34 Ds35 Ds36], .agg #[.bool b2, .slice C k e, .slice C' k' e']] W (QRv W Ss4 s4)) := fun W Ds31 Ds32 Ds33 Ds34 Ds35 Ds36 h zs3 ns3 => by
    rw [hSs4, hs4]
    exact radd_h (K := 25) ((qa_of zs3 ns3 Bs3).more (by decide)) ((hc.up h).more (by decide)) (by decide) (by decide)
  have K9 : Hid (∀ W, Bel w W → Calls Tryz.prog 30 #[.agg #[.bool b1, .slice B m d, .slice B' m' d'], .agg #[.bool b2, .slice C k e, .slice C' k' e']] W (QRv W Ss1 s1)) := fun W h => by
    rw [hSs1, hs1]
    exact radd_h (K := 12) ((hb.up h).more (by decide)) ((hc.up h).more (by decide)) (by decide) (by decide)
  have K10 : Hid (∀ W Ds11 Ds12 Ds13 Ds14 Ds15 Ds16, Bel w W → ZA W Ss1 Ds11 Ds12 Ds13 s1.num → Nm W Ds14 Ds15 Ds16 s1.den → Calls Tryz.prog 30 #[.agg #[.bool b0, .slice A n c, .slice A' n' c'], .agg #[.bool Ss1, .slice Ds11 Ds12 Ds13, .slice Ds14 Ds15 Ds16]] W (QRv W Ss5 s5)) := fun W Ds11 Ds12 Ds13 Ds14 Ds15 Ds16 h zs1 ns1 => by
    rw [hSs5, hs5]
    exact radd_h (K := 25) ((ha.up h).more (by decide)) ((qa_of zs1 ns1 Bs1).more (by decide)) (by decide) (by decide)
  have K11 : Hid (∀ W Ds41 Ds42 Ds43 Ds44 Ds45 Ds46 Ds51 Ds52 Ds53 Ds54 Ds55 Ds56, Bel w W → ZA W Ss4 Ds41 Ds42 Ds43 s4.num → Nm W Ds44 Ds45 Ds46 s4.den → ZA W Ss5 Ds51 Ds52 Ds53 s5.num → Nm W Ds54 Ds55 Ds56 s5.den → Calls Tryz.prog 18 #[.agg #[.bool Ss4, .slice Ds41 Ds42 Ds43, .slice Ds44 Ds45 Ds46], .agg #[.bool Ss5, .slice Ds51 Ds52 Ds53, .slice Ds54 Ds55 Ds56]] W (IntPost W 0)) := fun W Ds41 Ds42 Ds43 Ds44 Ds45 Ds46 Ds51 Ds52 Ds53 Ds54 Ds55 Ds56 h zs4 ns4 zs5 ns5 => by
    rw [show (0 : Int) = cmpR s4 s5 from (cmpR_same (by rw [hs4, hs5, hs3, hs1]; exact Rat.add_assoc ra rb rc)).symm]
    exact rcmp_h (K := 51) ((qa_of zs4 ns4 Bs4).more (by decide)) ((qa_of zs5 ns5 Bs5).more (by decide)) (by decide) (by decide)
  have K12 : Hid (∀ W, Bel w W → Calls Tryz.prog 28 #[.agg #[.bool b0, .slice A n c, .slice A' n' c']] W (QRv W Sn1 n1)) := fun W h => by
    rw [hSn1, hn1]
    exact rneg_h (K := 12) ((ha.up h).more (by decide)) (by decide) (by decide)
  have K13 : Hid (∀ W Dn11 Dn12 Dn13 Dn14 Dn15 Dn16, Bel w W → ZA W Sn1 Dn11 Dn12 Dn13 n1.num → Nm W Dn14 Dn15 Dn16 n1.den → Calls Tryz.prog 30 #[.agg #[.bool b0, .slice A n c, .slice A' n' c'], .agg #[.bool Sn1, .slice Dn11 Dn12 Dn13, .slice Dn14 Dn15 Dn16]] W (QRv W Sz0 z0)) := fun W Dn11 Dn12 Dn13 Dn14 Dn15 Dn16 h zn1 nn1 => by
    rw [hSz0, hz0]
    exact radd_h (K := 12) ((ha.up h).more (by decide)) ((qa_of zn1 nn1 Bn1).more (by decide)) (by decide) (by decide)
  have K14 : Hid (∀ W Dz01 Dz02 Dz03 Dz04 Dz05 Dz06, Bel w W → ZA W Sz0 Dz01 Dz02 Dz03 z0.num → Nm W Dz04 Dz05 Dz06 z0.den → Calls Tryz.prog 19 #[.agg #[.bool Sz0, .slice Dz01 Dz02 Dz03, .slice Dz04 Dz05 Dz06]] W (IntPost W 0)) := fun W Dz01 Dz02 Dz03 Dz04 Dz05 Dz06 h zz0 nz0 => by
    exact rsign_h (K := 25) ((qa_of zz0 nz0 Bz0).more (by decide)) (by decide) (by rw [hz0, hn1, Rat.add_neg_cancel]; rfl)
  obtain ⟨tx, htx⟩ : ∃ t : ByteArray, t.data.toList = decQ ra := ⟨⟨(decQ ra).toArray⟩, rfl⟩
  obtain ⟨sg, hsg⟩ : ∃ s, s = decide (ra.num < 0) := ⟨_, rfl⟩
  have Ba : Bd ra 12 := qa_bd ha (by decide)
  have CT : Hid (∀ W, Bel w W → Calls Tryz.prog 16 #[.agg #[.bool b0, .slice A n c, .slice A' n' c']] W (StrV W tx)) := fun W h => (rtext_h (ha.up h) (by decide) (by decide)).mono fun _ _ g => str_of g htx
  have CPa : Hid (∀ W, Calls Tryz.prog 13 #[.string tx] W (OfYs2 W sg ra)) := fun W => by rw [hsg]; exact rparse_back htx Ba (by decide) (by decide)
  have CE : Hid (∀ W D1 D2 D3 D4 D5 D6, Bel w W → ZA W sg D1 D2 D3 ra.num → Nm W D4 D5 D6 ra.den → Calls Tryz.prog 18 #[.agg #[.bool sg, .slice D1 D2 D3, .slice D4 D5 D6], .agg #[.bool b0, .slice A n c, .slice A' n' c']] W (IntPost W 0)) := fun W D1 D2 D3 D4 D5 D6 h h1 h2 => by
    rw [show (0 : Int) = cmpR ra ra from (cmpR_same rfl).symm]
    exact rcmp_h (K := 12) (qa_of h1 h2 Ba) (ha.up h) (by decide) (by decide)
  have CI : Hid (∀ W, Bel w W → Calls Tryz.prog 10 #[.agg #[.bool b0, .slice A n c, .slice A' n' c']] W (OfNo W)) := fun W h => inv_no (ha.up h) (by decide) h0
  have CSg : Hid (∀ W, Bel w W → Calls Tryz.prog 19 #[.agg #[.bool b0, .slice A n c, .slice A' n' c']] W (IntPost W 0)) := fun W h => rsign_h (ha.up h) (by decide) (by rw [h0]; rfl)
  clear h0
  clear ha hb hc Bpa Bpb Bpc htx hsg Ba hs1 hSs1 Bs1 hm1 hSm1 Bm1 hm2 hSm2 Bm2 hm3 hSm3 Bm3 hs2 hSs2 Bs2 hs3 hSs3 Bs3 hs4 hSs4 Bs4 hs5 hSs5 Bs5 hn1 hSn1 Bn1 hz0 hSz0 Bz0
  have CLa' := hide CLa
  have CLb' := hide CLb
  have CLc' := hide CLc
  have CGa' := hide CGa
  have CGb' := hide CGb
  have CGc' := hide CGc
  clear CLa CLb CLc CGa CGb CGc
  have CLa := CLa'
  have CLb := CLb'
  have CLc := CLc'
  have CGa := CGa'
  have CGb := CGb'
  have CGc := CGc'
  clear CLa' CLb' CLc' CGa' CGb' CGc'
  have HB := Bel.refl w
  go_enter Tryz.func5, Tryz.ntmps5
  go_wp2_with (first | (go_at_call 6; (with_reducible refine (awake3_any _).mono ?_); rintro e w1 ⟨rfl, hbk⟩; (with_reducible (have HA : At w1 w.heap.size [.bool b0, .slice A n c, .slice A' n' c'] := At.up ((at_new0 _ _ _).al _ |>.al _) hbk; have HD : At w1 (w.heap.size + 1) [.bool b1, .slice B m d, .slice B' m' d'] := At.up ((at_new1 _ _ _ _).al _) hbk; have HE : At w1 (w.heap.size + 1 + 1) [.bool b2, .slice C k e, .slice C' k' e'] := At.up (at_new2 _ _ _ _ _) hbk; replace HB := (((HB.al _).al _).al _).up hbk)); have ha_0 := HA.c0; have ha_1 := HA.c1; have ha_2 := HA.c2; have ha_l := HA.lt; have hd_0 := HD.c0; have hd_1 := HD.c1; have hd_2 := HD.c2; have hd_l := HD.lt; have he_0 := HE.c0; have he_1 := HE.c1; have he_2 := HE.c2; have he_l := HE.lt) | (go_at_call 20; (with_reducible refine (CLa.out _).mono ?_); rintro e w2a ⟨rfl, hbk⟩; (with_reducible (replace HB := HB.up hbk; replace HA := HA.up hbk; replace HD := HD.up hbk; replace HE := HE.up hbk)); clear ha_0 ha_1 ha_2 ha_l hd_0 hd_1 hd_2 hd_l he_0 he_1 he_2 he_l; have ha_0 := HA.c0; have ha_1 := HA.c1; have ha_2 := HA.c2; have ha_l := HA.lt; have hd_0 := HD.c0; have hd_1 := HD.c1; have hd_2 := HD.c2; have hd_l := HD.lt; have he_0 := HE.c0; have he_1 := HE.c1; have he_2 := HE.c2; have he_l := HE.lt) | (go_at_call 20; (with_reducible refine (CLb.out _).mono ?_); rintro e w2b ⟨rfl, hbk⟩; (with_reducible (replace HB := HB.up hbk; replace HA := HA.up hbk; replace HD := HD.up hbk; replace HE := HE.up hbk)); clear ha_0 ha_1 ha_2 ha_l hd_0 hd_1 hd_2 hd_l he_0 he_1 he_2 he_l; have ha_0 := HA.c0; have ha_1 := HA.c1; have ha_2 := HA.c2; have ha_l := HA.lt; have hd_0 := HD.c0; have hd_1 := HD.c1; have hd_2 := HD.c2; have hd_l := HD.lt; have he_0 := HE.c0; have he_1 := HE.c1; have he_2 := HE.c2; have he_l := HE.lt) | (go_at_call 20; (with_reducible refine (CLc.out _).mono ?_); rintro e w2c ⟨rfl, hbk⟩; (with_reducible (replace HB := HB.up hbk; replace HA := HA.up hbk; replace HD := HD.up hbk; replace HE := HE.up hbk)); clear ha_0 ha_1 ha_2 ha_l hd_0 hd_1 hd_2 hd_l he_0 he_1 he_2 he_l; have ha_0 := HA.c0; have ha_1 := HA.c1; have ha_2 := HA.c2; have ha_l := HA.lt; have hd_0 := HD.c0; have hd_1 := HD.c1; have hd_2 := HD.c2; have hd_l := HD.lt; have he_0 := HE.c0; have he_1 := HE.c1; have he_2 := HE.c2; have he_l := HE.lt) | (go_at_call 17; (with_reducible refine (CGa.out _ HB).mono ?_); rintro e w3a ⟨rfl, hbk⟩; replace hbk := Bel.hid hbk; (with_reducible (replace HB := HB.up hbk; replace HA := HA.up hbk; replace HD := HD.up hbk; replace HE := HE.up hbk)); clear ha_0 ha_1 ha_2 ha_l hd_0 hd_1 hd_2 hd_l he_0 he_1 he_2 he_l; have ha_0 := HA.c0; have ha_1 := HA.c1; have ha_2 := HA.c2; have ha_l := HA.lt; have hd_0 := HD.c0; have hd_1 := HD.c1; have hd_2 := HD.c2; have hd_l := HD.lt; have he_0 := HE.c0; have he_1 := HE.c1; have he_2 := HE.c2; have he_l := HE.lt) | (go_at_call 17; (with_reducible refine (CGb.out _ HB).mono ?_); rintro e w3b ⟨rfl, hbk⟩; replace hbk := Bel.hid hbk; (with_reducible (replace HB := HB.up hbk; replace HA := HA.up hbk; replace HD := HD.up hbk; replace HE := HE.up hbk)); clear ha_0 ha_1 ha_2 ha_l hd_0 hd_1 hd_2 hd_l he_0 he_1 he_2 he_l; have ha_0 := HA.c0; have ha_1 := HA.c1; have ha_2 := HA.c2; have ha_l := HA.lt; have hd_0 := HD.c0; have hd_1 := HD.c1; have hd_2 := HD.c2; have hd_l := HD.lt; have he_0 := HE.c0; have he_1 := HE.c1; have he_2 := HE.c2; have he_l := HE.lt) | (go_at_call 17; (with_reducible refine (CGc.out _ HB).mono ?_); rintro e w3c ⟨rfl, hbk⟩; replace hbk := Bel.hid hbk; (with_reducible (replace HB := HB.up hbk; replace HA := HA.up hbk; replace HD := HD.up hbk; replace HE := HE.up hbk)); clear ha_0 ha_1 ha_2 ha_l hd_0 hd_1 hd_2 hd_l he_0 he_1 he_2 he_l; have ha_0 := HA.c0; have ha_1 := HA.c1; have ha_2 := HA.c2; have ha_l := HA.lt; have hd_0 := HD.c0; have hd_1 := HD.c1; have hd_2 := HD.c2; have hd_l := HD.lt; have he_0 := HE.c0; have he_1 := HE.c1; have he_2 := HE.c2; have he_l := HE.lt) | fail)
  go_region_held3 (fun w' => w'.cell? ⟨w.heap.size, 0, none⟩ = some (.bool b0) ∧ w'.cell? ⟨w.heap.size, 1, none⟩ = some (.slice A n c) ∧ w'.cell? ⟨w.heap.size, 2, none⟩ = some (.slice A' n' c') ∧ w'.cell? ⟨w.heap.size + 1, 0, none⟩ = some (.bool b1) ∧ w'.cell? ⟨w.heap.size + 1, 1, none⟩ = some (.slice B m d) ∧ w'.cell? ⟨w.heap.size + 1, 2, none⟩ = some (.slice B' m' d') ∧ w'.cell? ⟨w.heap.size + 1 + 1, 0, none⟩ = some (.bool b2) ∧ w'.cell? ⟨w.heap.size + 1 + 1, 1, none⟩ = some (.slice C k e) ∧ w'.cell? ⟨w.heap.size + 1 + 1, 2, none⟩ = some (.slice C' k' e'))
    (first | with_reducible exact ⟨HA.dr.c0, HA.dr.c1, HA.dr.c2, HD.dr.c0, HD.dr.c1, HD.dr.c2, HE.dr.c0, HE.dr.c1, HE.dr.c2⟩ | with_reducible exact ⟨HA.c0, HA.c1, HA.c2, HD.c0, HD.c1, HD.c2, HE.c0, HE.c1, HE.c2⟩)
    (first | (go_at_call 30; (with_reducible refine (K9.out _ HB).mono ?_); rintro e v8 ⟨p81, p82, p83, p84, rfl, zs1, ns1, hbk⟩; (with_reducible (replace HB := HB.up hbk; replace HA := HA.up hbk; replace HD := HD.up hbk; replace HE := HE.up hbk; replace zs4 := zs4.up hbk; replace ns4 := ns4.up hbk))) | (go_at_call 30; (with_reducible refine (K1.out _ HB.dr).mono ?_); rintro e v0 ⟨p01, p02, p03, p04, rfl, zs1, ns1, hbk⟩; (with_reducible (replace HB := HB.dr.up hbk; replace HA := HA.dr.up hbk; replace HD := HD.dr.up hbk; replace HE := HE.dr.up hbk))) | (go_at_call 32; (with_reducible refine (K2.out _ _ _ _ _ _ _ HB zs1 ns1).mono ?_); rintro e v1 ⟨p11, p12, p13, p14, rfl, zm1, nm1, hbk⟩; (with_reducible (replace HB := HB.up hbk; replace HA := HA.up hbk; replace HD := HD.up hbk; replace HE := HE.up hbk))) | (go_at_call 32; (with_reducible refine (K3.out _ HB).mono ?_); rintro e v2 ⟨p21, p22, p23, p24, rfl, zm2, nm2, hbk⟩; (with_reducible (replace HB := HB.up hbk; replace HA := HA.up hbk; replace HD := HD.up hbk; replace HE := HE.up hbk; replace zm1 := zm1.up hbk; replace nm1 := nm1.up hbk))) | (go_at_call 32; (with_reducible refine (K4.out _ HB).mono ?_); rintro e v3 ⟨p31, p32, p33, p34, rfl, zm3, nm3, hbk⟩; (with_reducible (replace HB := HB.up hbk; replace HA := HA.up hbk; replace HD := HD.up hbk; replace HE := HE.up hbk; replace zm1 := zm1.up hbk; replace nm1 := nm1.up hbk; replace zm2 := zm2.up hbk; replace nm2 := nm2.up hbk))) | (go_at_call 30; (with_reducible refine (K5.out _ _ _ _ _ _ _ _ _ _ _ _ _ HB zm2 nm2 zm3 nm3).mono ?_); rintro e v4 ⟨p41, p42, p43, p44, rfl, zs2, ns2, hbk⟩; (with_reducible (replace HB := HB.up hbk; replace HA := HA.up hbk; replace HD := HD.up hbk; replace HE := HE.up hbk; replace zm1 := zm1.up hbk; replace nm1 := nm1.up hbk))) | (go_at_call 18; (with_reducible refine (K6.out _ _ _ _ _ _ _ _ _ _ _ _ _ HB zm1 nm1 zs2 ns2).mono ?_); rintro e v5 ⟨rfl, hbk⟩; (with_reducible (replace HB := HB.up hbk; replace HA := HA.up hbk; replace HD := HD.up hbk; replace HE := HE.up hbk))) | (go_at_call 30; (with_reducible refine (K7.out _ HB).mono ?_); rintro e v6 ⟨p61, p62, p63, p64, rfl, zs3, ns3, hbk⟩; (with_reducible (replace HB := HB.up hbk; replace HA := HA.up hbk; replace HD := HD.up hbk; replace HE := HE.up hbk))) | (go_at_call 30; (with_reducible refine (K8.out _ _ _ _ _ _ _ HB zs3 ns3).mono ?_); rintro e v7 ⟨p71, p72, p73, p74, rfl, zs4, ns4, hbk⟩; (with_reducible (replace HB := HB.up hbk; replace HA := HA.up hbk; replace HD := HD.up hbk; replace HE := HE.up hbk))) | (go_at_call 30; (with_reducible refine (K10.out _ _ _ _ _ _ _ HB zs1 ns1).mono ?_); rintro e v9 ⟨p91, p92, p93, p94, rfl, zs5, ns5, hbk⟩; (with_reducible (replace HB := HB.up hbk; replace HA := HA.up hbk; replace HD := HD.up hbk; replace HE := HE.up hbk; replace zs4 := zs4.up hbk; replace ns4 := ns4.up hbk))) | (go_at_call 18; (with_reducible refine (K11.out _ _ _ _ _ _ _ _ _ _ _ _ _ HB zs4 ns4 zs5 ns5).mono ?_); rintro e v10 ⟨rfl, hbk⟩; (with_reducible (replace HB := HB.up hbk; replace HA := HA.up hbk; replace HD := HD.up hbk; replace HE := HE.up hbk))) | (go_at_call 28; (with_reducible refine (K12.out _ HB).mono ?_); rintro e v11 ⟨p111, p112, p113, p114, rfl, zn1, nn1, hbk⟩; (with_reducible (replace HB := HB.up hbk; replace HA := HA.up hbk; replace HD := HD.up hbk; replace HE := HE.up hbk))) | (go_at_call 30; (with_reducible refine (K13.out _ _ _ _ _ _ _ HB zn1 nn1).mono ?_); rintro e v12 ⟨p121, p122, p123, p124, rfl, zz0, nz0, hbk⟩; (with_reducible (replace HB := HB.up hbk; replace HA := HA.up hbk; replace HD := HD.up hbk; replace HE := HE.up hbk))) | (go_at_call 19; (with_reducible refine (K14.out _ _ _ _ _ _ _ HB zz0 nz0).mono ?_); rintro e v13 ⟨rfl, hbk⟩; (with_reducible (replace HB := HB.up hbk; replace HA := HA.up hbk; replace HD := HD.up hbk; replace HE := HE.up hbk)); have ha_0 := HA.c0; have ha_1 := HA.c1; have ha_2 := HA.c2; have ha_l := HA.lt; have hd_0 := HD.c0; have hd_1 := HD.c1; have hd_2 := HD.c2; have hd_l := HD.lt; have he_0 := HE.c0; have he_1 := HE.c1; have he_2 := HE.c2; have he_l := HE.lt) | fail)
  go_wp2_with (first | (go_at_call 10; (with_reducible refine (CI.out _ HB).mono ?_); rintro e wb ⟨rfl, hbk⟩; (with_reducible (replace HB := HB.up hbk; replace HA := HA.up hbk)); clear ha_0 ha_1 ha_2 ha_l hd_0 hd_1 hd_2 hd_l he_0 he_1 he_2 he_l HD HE; have ha_0 := HA.c0; have ha_1 := HA.c1; have ha_2 := HA.c2; have ha_l := HA.lt) | (go_at_call 16; (with_reducible refine (CT.out _ (HB.al _)).mono ?_); rintro e wc ⟨rfl, hbk⟩; (with_reducible (replace HB := (HB.al _).up hbk; replace HA := (HA.al _).up hbk)); clear ha_0 ha_1 ha_2 ha_l; have ha_0 := HA.c0; have ha_1 := HA.c1; have ha_2 := HA.c2; have ha_l := HA.lt) | (go_at_call 13; (with_reducible refine (CPa.out _).mono ?_); rintro e wd ⟨tA, tc, tB, td, rfl, zt, nt, hbk⟩; (with_reducible (replace HB := HB.up hbk; replace HA := HA.up hbk)); clear ha_0 ha_1 ha_2 ha_l; have ha_0 := HA.c0; have ha_1 := HA.c1; have ha_2 := HA.c2; have ha_l := HA.lt) | (go_at_call 18; (with_reducible refine (CE.out _ _ _ _ _ _ _ (HB.al _) (zt.al _) (nt.al _)).mono ?_); rintro e we ⟨rfl, hbk⟩; (with_reducible (replace HB := (HB.al _).up hbk; replace HA := (HA.al _).up hbk)); clear ha_0 ha_1 ha_2 ha_l; have ha_0 := HA.c0; have ha_1 := HA.c1; have ha_2 := HA.c2; have ha_l := HA.lt) | (go_at_call 19; (with_reducible refine (CSg.out _ HB).mono ?_); rintro e wf ⟨rfl, hbk⟩; (with_reducible (replace HB := HB.up hbk))) | fail)
  go_ret
  exact ⟨rfl, HB⟩
end
end Go.Proofs.YtfknclimoihfdaaGreatDoor
