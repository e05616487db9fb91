/- Several texts in one, each with its own sentence and conditions. -/
import Derived.Test.YteahcbeohopdlaaDoorGRkc25
import Derived.Test.YteahcbeohopdlaaDoorGRkc24
import Derived.Deep.CutRange
section
/- Package round: whole. Conditions: terms of at most 20000 words. -/
open Go.RowKit
set_option maxRecDepth 100000
namespace Go.Proofs.YteahcbeohopdlaaDoor
theorem dlz_ : dl (0 : Int).natAbs = 0 := by unfold dl; rw [show (0 : Int).natAbs = 0 from rfl, digs_zero]; rfl
section
variable {W : World} {b b' : Bool} {A A' : Option Addr} {n n' c c' q K : Nat} {p f r m : Int}
theorem nabs_div_le (p : Int) (q : Nat) : (p / (q : Int)).natAbs ≤ p.natAbs := by
  by_cases hq : q = 0
  · rw [hq]; simp
  · have h1 := Int.emod_add_mul_ediv p (q : Int)
    have h2 := Int.emod_nonneg p (by omega : (q : Int) ≠ 0)
    have h3 := Int.emod_lt_of_pos p (by omega : (0 : Int) < (q : Int))
    by_cases hp : 0 ≤ p
    · have h4 : p / (q : Int) ≤ p := Int.ediv_le_self _ hp
      have h5 : 0 ≤ p / (q : Int) := Int.ediv_nonneg hp (by omega)
      omega
    · have h4 : p / (q : Int) < 0 := Int.ediv_neg_of_neg_of_pos (by omega) (by omega)
      have h5 : (q : Int) * (p / (q : Int)) ≤ 1 * (p / (q : Int)) := Int.mul_le_mul_of_nonpos_right (by omega) (by omega)
      have h6 : p ≤ p / (q : Int) := Int.le_of_not_gt fun h => by
        have h7 : p / (q : Int) + 1 ≤ p := by omega
        have h8 := Int.mul_le_mul_of_nonneg_left h7 (by omega : (0 : Int) ≤ (q : Int))
        have h9 : (q : Int) * p ≤ 1 * p := Int.mul_le_mul_of_nonpos_right (by omega) (by omega)
        rw [Int.mul_add] at h8
        omega
      omega
set_option maxHeartbeats 8000000 in
theorem whole_0 (hz : ZA W b A n c p) (hq : Nm W A' n' c' q) (hm : 1 ≤ m ∧ m ≤ 7) (bp : p.natAbs < W32 ^ K) (bq : q < W32 ^ K) (hK : K ≤ 20000) (h0 : q = 0) : Calls Tryd.prog 90 #[.agg #[.bool b, .slice A n c], .agg #[.slice A' n' c'], .int .i64 m] W (ZR W (rdZ m p q)) := by
  have HE : rdZ m p q = 0 := by unfold rdZ; rw [if_pos h0]
  rw [HE]
  have CD : Hid (∀ W', Bel W W' → Calls Tryd.prog 13 #[.agg #[.bool b, .slice A n c], .agg #[.bool false, .slice A' n' c']] W' (ZDivNo W')) := fun W' hb => zdiv_no (z' := 0) (hz.up hb) (by have h1 := za_of (b := false) (hq.up hb); rw [zi_false, h0] at h1; exact h1) rfl
  have HZ := hide dlz_
  clear hz hq hm bp bq hK h0 HE
  have HB := Bel.refl W
  go_enter Tryd.func90, Tryd.ntmps90
  go_wp2_with (first | (go_at_call 13; (with_reducible refine (CD.out _ (((HB.al _).al _).al _)).mono ?_); rintro e w1 ⟨rfl, hbk⟩; (with_reducible (have H1 : At w1 (W.heap.size + 1) [.slice A' n' c'] := At.up ((at_new1 _ _ _ _).al _) hbk; have HR : At w1 (W.heap.size + 1 + 1) [.bool false, .slice none 0 0] := At.up (at_new2 _ _ _ _ _) hbk; replace HB := (((HB.al _).al _).al _).up hbk)); have hr_0 := ((HR.al (.cells #[.bool false, .slice none 0 0] 26)).al (.cells #[.bool false, .slice none 0 0] 26)).c0; have hr_1 := ((HR.al (.cells #[.bool false, .slice none 0 0] 26)).al (.cells #[.bool false, .slice none 0 0] 26)).c1; have hr_l := ((HR.al (.cells #[.bool false, .slice none 0 0] 26)).al (.cells #[.bool false, .slice none 0 0] 26)).lt; have hr_f0 := ((HR.al (.cells #[.bool false, .slice none 0 0] 26)).al (.cells #[.bool false, .slice none 0 0] 26)).f0; have hr_f1 := ((HR.al (.cells #[.bool false, .slice none 0 0] 26)).al (.cells #[.bool false, .slice none 0 0] 26)).f1) | fail)
  refine name_end ?_
  intro W4 hW4
  have HF : At W4 (W.heap.size + 1 + 1) [.bool false, .slice none 0 0] := by rw [hW4]; (repeat (first | with_reducible exact HR | (with_reducible refine At.al ?_ _) | (with_reducible refine At.put2 (v0 := .bool false) (v1 := .slice none 0 0) ?_ _ _)))
  have BF : Bel W W4 := by rw [hW4]; (repeat (first | with_reducible exact HB | (with_reducible refine Bel.al ?_ _) | (with_reducible refine Bel.put2 ?_ (by omega) _ _)))
  clear hW4
  refine bodyPost_ret (v := .agg #[.bool false, .slice none 0 0]) (by simp [results, Tryd.results90, go_sem, HF.c0, HF.c1]) rfl ?_
  exact ⟨none, 0, by rw [HZ.out]; rfl, ⟨by rw [HZ.out]; exact nm_nil _ _ _, by unfold Hid; decide⟩, BF⟩
set_option maxHeartbeats 8000000 in
theorem whole_i (hz : ZA W b A n c p) (hq : Nm W A' n' c' q) (hm : 1 ≤ m ∧ m ≤ 7) (bp : p.natAbs < W32 ^ K) (bq : q < W32 ^ K) (hK : K ≤ 20000) (h0 : q ≠ 0) (h1' : p % (q : Int) = 0) : Calls Tryd.prog 90 #[.agg #[.bool b, .slice A n c], .agg #[.slice A' n' c'], .int .i64 m] W (ZR W (rdZ m p q)) := by
  obtain ⟨f, hf⟩ : ∃ f, p / (q : Int) = f := ⟨_, rfl⟩
  obtain ⟨r, hr⟩ : ∃ r, p % (q : Int) = r := ⟨_, rfl⟩
  obtain ⟨t, ht⟩ : ∃ t, rdZ m p q = t := ⟨_, rfl⟩
  rw [ht]
  unfold rdZ at ht
  rw [if_neg h0, hf, hr] at ht
  have bf : f.natAbs < W32 ^ K := by rw [← hf]; exact Nat.lt_of_le_of_lt (nabs_div_le p q) bp
  have br : r.natAbs < W32 ^ K := by
    have h2 := Int.emod_nonneg p (by omega : (q : Int) ≠ 0)
    have h3 := Int.emod_lt_of_pos p (by omega : (0 : Int) < (q : Int))
    omega
  have hr0 : 0 ≤ r := by rw [← hr]; exact Int.emod_nonneg p (by omega : (q : Int) ≠ 0)
  have df : dl f.natAbs ≤ 99998 := Nat.le_trans (dl_le bf) (by omega)
  have dr : dl (r.natAbs + r.natAbs) ≤ 100000 := Nat.le_trans (dl_le (bd_add br br)) (by omega)
  rw [hr] at h1'
  obtain ⟨sf, hsf⟩ : ∃ x, x = decide (f < 0) := ⟨_, rfl⟩
  obtain ⟨sr, hsr⟩ : ∃ x, x = decide (r < 0) := ⟨_, rfl⟩
  obtain ⟨st, hst⟩ : ∃ x, x = decide (t < 0) := ⟨_, rfl⟩
  have CD : Hid (∀ W', Bel W W' → Calls Tryd.prog 13 #[.agg #[.bool b, .slice A n c], .agg #[.bool false, .slice A' n' c']] W' (ZDivS W' sf sr f r)) := fun W' hb => by
    rw [hsf, hsr]
    exact zdiv_h (hz.up hb) (za_of (b := false) (hq.up hb)) (by rw [zi_false]; omega) (Nat.le_trans (dl_le bp) (by omega)) (by rw [zi_false]; exact hf) (by rw [zi_false]; exact hr)
  have CS : Hid (∀ W' B e, ZA W' sr B (dl r.natAbs) e r → Calls Tryd.prog 19 #[.agg #[.bool sr, .slice B (dl r.natAbs) e]] W' (IntPost W' 0)) := fun W' B e h1 => sign_h h1 (by rw [h1']; rfl)
  have HT : t = f := by rw [← ht, if_pos h1']
  have HT2 := hide HT
  clear HT
  have HS := hide hst
  have HSF := hide hsf
  clear hz hq hm bp bq hK h0 hf hr ht bf br hr0 df dr hsf hsr hst h1'
  have HB := Bel.refl W
  go_enter Tryd.func90, Tryd.ntmps90
  go_wp2_with (first | (go_at_call 13; (with_reducible refine (CD.out _ (((HB.al _).al _).al _)).mono ?_); rintro e w1 ⟨Bf, ef, Br, er, rfl, zf, zr, hbk⟩; (with_reducible (have H1 : At w1 (W.heap.size + 1) [.slice A' n' c'] := At.up ((at_new1 _ _ _ _).al _) hbk; have HR : At w1 (W.heap.size + 1 + 1) [.bool false, .slice none 0 0] := At.up (at_new2 _ _ _ _ _) hbk; replace HB := (((HB.al _).al _).al _).up hbk)); have hr_0 := HR.c0; have hr_1 := HR.c1; have hr_l := HR.lt; have h1_0 := H1.c0; have h1_l := H1.lt; have HRL := HR.lt) | (go_at_call 19; (with_reducible refine (CS.out _ _ _ ((zr.al _).al _)).mono ?_); rintro e w2 ⟨rfl, hbk⟩; (with_reducible (have HF : At w2 w1.heap.size [.bool sf, .slice Bf (dl f.natAbs) ef] := At.up ((at_new0 _ _ _).al _) hbk; have HT : At w2 (w1.heap.size + 1) [.bool sr, .slice Br (dl r.natAbs) er] := At.up (at_new1 _ _ _ _) hbk; replace HB := ((HB.al _).al _).up hbk; replace HR := ((HR.al _).al _).up hbk; replace H1 := ((H1.al _).al _).up hbk; replace zf := ((zf.al _).al _).up hbk; replace zr := ((zr.al _).al _).up hbk)); clear hr_0 hr_1 hr_l h1_0 h1_l; have hf_0 := HF.c0; have hf_1 := HF.c1; have hf_l := HF.lt; have ht_0 := HT.c0; have ht_1 := HT.c1; have ht_l := HT.lt; have hr_0 := HR.c0; have hr_1 := HR.c1; have hr_l := HR.lt; have hr_f0 := HR.f0; have hr_f1 := HR.f1; have h1_0 := H1.c0; have h1_l := H1.lt; have zn := zr.1) | fail)
  rw [HT2.out]
  refine bodyPost_ret (v := .agg #[.bool sf, .slice Bf (dl f.natAbs) ef]) (by simp [results, Tryd.results90, go_sem, hr_0, hr_1]) rfl ?_
  rw [HSF.out] at zf ⊢
  exact ret_z HB (by omega) HR now2 zf
set_option maxHeartbeats 8000000 in
theorem whole_u (hz : ZA W b A n c p) (hq : Nm W A' n' c' q) (hm : 1 ≤ m ∧ m ≤ 7) (bp : p.natAbs < W32 ^ K) (bq : q < W32 ^ K) (hK : K ≤ 20000) (h0 : q ≠ 0) (h1' : ¬ p % (q : Int) = 0) (h2' : rdUp m (p / (q : Int)) (p % (q : Int)).natAbs q = true) : Calls Tryd.prog 90 #[.agg #[.bool b, .slice A n c], .agg #[.slice A' n' c'], .int .i64 m] W (ZR W (rdZ m p q)) := by
  obtain ⟨f, hf⟩ : ∃ f, p / (q : Int) = f := ⟨_, rfl⟩
  obtain ⟨r, hr⟩ : ∃ r, p % (q : Int) = r := ⟨_, rfl⟩
  obtain ⟨t, ht⟩ : ∃ t, rdZ m p q = t := ⟨_, rfl⟩
  rw [ht]
  unfold rdZ at ht
  rw [if_neg h0, hf, hr] at ht
  have bf : f.natAbs < W32 ^ K := by rw [← hf]; exact Nat.lt_of_le_of_lt (nabs_div_le p q) bp
  have br : r.natAbs < W32 ^ K := by
    have h2 := Int.emod_nonneg p (by omega : (q : Int) ≠ 0)
    have h3 := Int.emod_lt_of_pos p (by omega : (0 : Int) < (q : Int))
    omega
  have hr0 : 0 ≤ r := by rw [← hr]; exact Int.emod_nonneg p (by omega : (q : Int) ≠ 0)
  have df : dl f.natAbs ≤ 99998 := Nat.le_trans (dl_le bf) (by omega)
  have dr : dl (r.natAbs + r.natAbs) ≤ 100000 := Nat.le_trans (dl_le (bd_add br br)) (by omega)
  rw [hr] at h1'
  rw [hf, hr] at h2'
  obtain ⟨sf, hsf⟩ : ∃ x, x = decide (f < 0) := ⟨_, rfl⟩
  obtain ⟨sr, hsr⟩ : ∃ x, x = decide (r < 0) := ⟨_, rfl⟩
  obtain ⟨st, hst⟩ : ∃ x, x = decide (t < 0) := ⟨_, rfl⟩
  have CD : Hid (∀ W', Bel W W' → Calls Tryd.prog 13 #[.agg #[.bool b, .slice A n c], .agg #[.bool false, .slice A' n' c']] W' (ZDivS W' sf sr f r)) := fun W' hb => by
    rw [hsf, hsr]
    exact zdiv_h (hz.up hb) (za_of (b := false) (hq.up hb)) (by rw [zi_false]; omega) (Nat.le_trans (dl_le bp) (by omega)) (by rw [zi_false]; exact hf) (by rw [zi_false]; exact hr)
  have CS : Hid (∀ W' B e, ZA W' sr B (dl r.natAbs) e r → Calls Tryd.prog 19 #[.agg #[.bool sr, .slice B (dl r.natAbs) e]] W' (IntPost W' 1)) := fun W' B e h1 => sign_h h1 (Int.sign_eq_one_of_pos (by omega))
  have CR : Hid (∀ W' B e B' e', Bel W W' → ZA W' sf B (dl f.natAbs) e f → Nm W' B' (dl r.natAbs) e' r.natAbs → Calls Tryd.prog 125 #[.agg #[.bool sf, .slice B (dl f.natAbs) e], .agg #[.slice B' (dl r.natAbs) e'], .agg #[.slice A' n' c'], .int .i64 m] W' (RetB W' true)) := fun W' B e B' e' hb h1 h2 => by
    have h3 := rises_h h1 h2 (hq.up hb.hid) (by omega) hm dr
    rwa [h2'] at h3
  obtain ⟨one, hone⟩ : ∃ x : Int, x = 1 := ⟨_, rfl⟩
  obtain ⟨s1, hs1⟩ : ∃ x, x = decide (one < 0) := ⟨_, rfl⟩
  have CO : Hid (∀ W', Calls Tryd.prog 30 #[.int .i64 1] W' (ZRu W' s1 one)) := fun W' => by rw [hs1, hone]; exact zof_h (by decide) (by decide)
  have CA : Hid (∀ W' B e B' e', ZA W' sf B (dl f.natAbs) e f → ZA W' s1 B' (dl one.natAbs) e' one → Calls Tryd.prog 22 #[.agg #[.bool sf, .slice B (dl f.natAbs) e], .agg #[.bool s1, .slice B' (dl one.natAbs) e']] W' (ZRu W' st t)) := fun W' B e B' e' h1 h2 => by
    rw [hst]
    refine zadd_h h1 h2 ?_ ?_
    · rw [hone, ← ht, if_neg h1', if_pos h2']
    · rw [← ht, if_neg h1', if_pos h2']
      exact Nat.le_trans (dl_mono (b := f.natAbs + 1) (by omega)) (Nat.le_trans (dl_succ _) (by omega))
  have HS := hide hst
  have HSF := hide hsf
  clear hz hq hm bp bq hK h0 hf hr ht bf br hr0 df dr hsf hsr hst h1' h2' hone hs1
  have HB := Bel.refl W
  go_enter Tryd.func90, Tryd.ntmps90
  go_wp2_with (first | (go_at_call 13; (with_reducible refine (CD.out _ (((HB.al _).al _).al _)).mono ?_); rintro e w1 ⟨Bf, ef, Br, er, rfl, zf, zr, hbk⟩; (with_reducible (have H1 : At w1 (W.heap.size + 1) [.slice A' n' c'] := At.up ((at_new1 _ _ _ _).al _) hbk; have HR : At w1 (W.heap.size + 1 + 1) [.bool false, .slice none 0 0] := At.up (at_new2 _ _ _ _ _) hbk; replace HB := (((HB.al _).al _).al _).up hbk)); have hr_0 := HR.c0; have hr_1 := HR.c1; have hr_l := HR.lt; have h1_0 := H1.c0; have h1_l := H1.lt; have HRL := HR.lt) | (go_at_call 19; (with_reducible refine (CS.out _ _ _ ((zr.al _).al _)).mono ?_); rintro e w2 ⟨rfl, hbk⟩; (with_reducible (have HF : At w2 w1.heap.size [.bool sf, .slice Bf (dl f.natAbs) ef] := At.up ((at_new0 _ _ _).al _) hbk; have HT : At w2 (w1.heap.size + 1) [.bool sr, .slice Br (dl r.natAbs) er] := At.up (at_new1 _ _ _ _) hbk; replace HB := ((HB.al _).al _).up hbk; replace HR := ((HR.al _).al _).up hbk; replace H1 := ((H1.al _).al _).up hbk; replace zf := ((zf.al _).al _).up hbk; replace zr := ((zr.al _).al _).up hbk)); clear hr_0 hr_1 hr_l h1_0 h1_l; have hf_0 := HF.c0; have hf_1 := HF.c1; have hf_l := HF.lt; have ht_0 := HT.c0; have ht_1 := HT.c1; have ht_l := HT.lt; have hr_0 := HR.c0; have hr_1 := HR.c1; have hr_l := HR.lt; have hr_f0 := HR.f0; have hr_f1 := HR.f1; have h1_0 := H1.c0; have h1_l := H1.lt; have zn := zr.1) | (go_at_call 125; (with_reducible refine (CR.out _ _ _ _ _ HB zf zn).mono ?_); rintro e w3 ⟨rfl, hbk⟩; replace hbk := Bel.hid hbk; (with_reducible (replace HB := HB.up hbk; replace HR := HR.up hbk; replace HF := HF.up hbk; replace HT := HT.up hbk; replace H1 := H1.up hbk; replace zf := zf.up hbk)); clear hf_0 hf_1 hf_l ht_0 ht_1 ht_l hr_0 hr_1 hr_l hr_f0 hr_f1 h1_0 h1_l; have hf_0 := HF.c0; have hf_1 := HF.c1; have hf_l := HF.lt; have hr_0 := HR.c0; have hr_1 := HR.c1; have hr_l := HR.lt; have hr_f0 := HR.f0; have hr_f1 := HR.f1) | fail)
  clear hf_0 hf_1 hf_l hr_0 hr_1 hr_l hr_f0 hr_f1
  go_region_held3 (fun w' => w'.cell? ⟨w1.heap.size, 0, none⟩ = some (.bool sf) ∧ w'.cell? ⟨w1.heap.size, 1, none⟩ = some (.slice Bf (dl f.natAbs) ef))
    (refine ⟨(?_ : At _ w1.heap.size [.bool sf, .slice Bf (dl f.natAbs) ef]).c0, (?_ : At _ w1.heap.size [.bool sf, .slice Bf (dl f.natAbs) ef]).c1⟩ <;> (repeat (first | with_reducible exact HF | (with_reducible refine At.dr ?_) | (with_reducible refine At.al ?_ _) | (with_reducible refine At.far ?_ (by omega) _))))
    (first | (go_at_call 30; (with_reducible refine (CO.out _).mono ?_); rintro e w4 ⟨Bo, eo, rfl, zo, hbk⟩; (with_reducible (replace HB := HB.dr.up hbk; replace HR := HR.dr.up hbk; replace HF := HF.dr.up hbk; replace zf := zf.dr.up hbk))) | (go_at_call 22; (with_reducible refine (CA.out _ _ _ _ _ zf zo).mono ?_); rintro e w5 ⟨Bt, et, rfl, zt, hbk⟩; (with_reducible (replace HB := HB.up hbk; replace HR := HR.up hbk; replace HF := HF.up hbk)); have hr_0 := HR.c0; have hr_1 := HR.c1; have hr_l := HR.lt; have hr_f0 := HR.f0; have hr_f1 := HR.f1; have lf := HF.lt; have hne := (show w1.heap.size ≠ W.heap.size + 1 + 1 by omega)) | fail)
  go_wp2_with fail
  refine bodyPost_ret (v := .agg #[.bool st, .slice Bt (dl t.natAbs) et]) (by simp [results, Tryd.results90, go_sem, hr_0, hr_1]) rfl ?_
  rw [HS.out] at zt ⊢
  exact ret_z HB (by omega) HR now2 zt
set_option maxHeartbeats 8000000 in
theorem whole_d (hz : ZA W b A n c p) (hq : Nm W A' n' c' q) (hm : 1 ≤ m ∧ m ≤ 7) (bp : p.natAbs < W32 ^ K) (bq : q < W32 ^ K) (hK : K ≤ 20000) (h0 : q ≠ 0) (h1' : ¬ p % (q : Int) = 0) (h2' : ¬ rdUp m (p / (q : Int)) (p % (q : Int)).natAbs q = true) : Calls Tryd.prog 90 #[.agg #[.bool b, .slice A n c], .agg #[.slice A' n' c'], .int .i64 m] W (ZR W (rdZ m p q)) := by
  obtain ⟨f, hf⟩ : ∃ f, p / (q : Int) = f := ⟨_, rfl⟩
  obtain ⟨r, hr⟩ : ∃ r, p % (q : Int) = r := ⟨_, rfl⟩
  obtain ⟨t, ht⟩ : ∃ t, rdZ m p q = t := ⟨_, rfl⟩
  rw [ht]
  unfold rdZ at ht
  rw [if_neg h0, hf, hr] at ht
  have bf : f.natAbs < W32 ^ K := by rw [← hf]; exact Nat.lt_of_le_of_lt (nabs_div_le p q) bp
  have br : r.natAbs < W32 ^ K := by
    have h2 := Int.emod_nonneg p (by omega : (q : Int) ≠ 0)
    have h3 := Int.emod_lt_of_pos p (by omega : (0 : Int) < (q : Int))
    omega
  have hr0 : 0 ≤ r := by rw [← hr]; exact Int.emod_nonneg p (by omega : (q : Int) ≠ 0)
  have df : dl f.natAbs ≤ 99998 := Nat.le_trans (dl_le bf) (by omega)
  have dr : dl (r.natAbs + r.natAbs) ≤ 100000 := Nat.le_trans (dl_le (bd_add br br)) (by omega)
  rw [hr] at h1'
  rw [hf, hr] at h2'
  obtain ⟨sf, hsf⟩ : ∃ x, x = decide (f < 0) := ⟨_, rfl⟩
  obtain ⟨sr, hsr⟩ : ∃ x, x = decide (r < 0) := ⟨_, rfl⟩
  obtain ⟨st, hst⟩ : ∃ x, x = decide (t < 0) := ⟨_, rfl⟩
  have CD : Hid (∀ W', Bel W W' → Calls Tryd.prog 13 #[.agg #[.bool b, .slice A n c], .agg #[.bool false, .slice A' n' c']] W' (ZDivS W' sf sr f r)) := fun W' hb => by
    rw [hsf, hsr]
    exact zdiv_h (hz.up hb) (za_of (b := false) (hq.up hb)) (by rw [zi_false]; omega) (Nat.le_trans (dl_le bp) (by omega)) (by rw [zi_false]; exact hf) (by rw [zi_false]; exact hr)
  have CS : Hid (∀ W' B e, ZA W' sr B (dl r.natAbs) e r → Calls Tryd.prog 19 #[.agg #[.bool sr, .slice B (dl r.natAbs) e]] W' (IntPost W' 1)) := fun W' B e h1 => sign_h h1 (Int.sign_eq_one_of_pos (by omega))
  have CR : Hid (∀ W' B e B' e', Bel W W' → ZA W' sf B (dl f.natAbs) e f → Nm W' B' (dl r.natAbs) e' r.natAbs → Calls Tryd.prog 125 #[.agg #[.bool sf, .slice B (dl f.natAbs) e], .agg #[.slice B' (dl r.natAbs) e'], .agg #[.slice A' n' c'], .int .i64 m] W' (RetB W' false)) := fun W' B e B' e' hb h1 h2 => by
    have h3 := rises_h h1 h2 (hq.up hb.hid) (by omega) hm dr
    rwa [Bool.eq_false_iff.2 h2'] at h3
  have HT : t = f := by rw [← ht, if_neg h1', if_neg h2']
  have HT2 := hide HT
  clear HT
  have HS := hide hst
  have HSF := hide hsf
  clear hz hq hm bp bq hK h0 hf hr ht bf br hr0 df dr hsf hsr hst h1' h2'
  have HB := Bel.refl W
  go_enter Tryd.func90, Tryd.ntmps90
  go_wp2_with (first | (go_at_call 13; (with_reducible refine (CD.out _ (((HB.al _).al _).al _)).mono ?_); rintro e w1 ⟨Bf, ef, Br, er, rfl, zf, zr, hbk⟩; (with_reducible (have H1 : At w1 (W.heap.size + 1) [.slice A' n' c'] := At.up ((at_new1 _ _ _ _).al _) hbk; have HR : At w1 (W.heap.size + 1 + 1) [.bool false, .slice none 0 0] := At.up (at_new2 _ _ _ _ _) hbk; replace HB := (((HB.al _).al _).al _).up hbk)); have hr_0 := HR.c0; have hr_1 := HR.c1; have hr_l := HR.lt; have h1_0 := H1.c0; have h1_l := H1.lt; have HRL := HR.lt) | (go_at_call 19; (with_reducible refine (CS.out _ _ _ ((zr.al _).al _)).mono ?_); rintro e w2 ⟨rfl, hbk⟩; (with_reducible (have HF : At w2 w1.heap.size [.bool sf, .slice Bf (dl f.natAbs) ef] := At.up ((at_new0 _ _ _).al _) hbk; have HT : At w2 (w1.heap.size + 1) [.bool sr, .slice Br (dl r.natAbs) er] := At.up (at_new1 _ _ _ _) hbk; replace HB := ((HB.al _).al _).up hbk; replace HR := ((HR.al _).al _).up hbk; replace H1 := ((H1.al _).al _).up hbk; replace zf := ((zf.al _).al _).up hbk; replace zr := ((zr.al _).al _).up hbk)); clear hr_0 hr_1 hr_l h1_0 h1_l; have hf_0 := HF.c0; have hf_1 := HF.c1; have hf_l := HF.lt; have ht_0 := HT.c0; have ht_1 := HT.c1; have ht_l := HT.lt; have hr_0 := HR.c0; have hr_1 := HR.c1; have hr_l := HR.lt; have hr_f0 := HR.f0; have hr_f1 := HR.f1; have h1_0 := H1.c0; have h1_l := H1.lt; have zn := zr.1) | (go_at_call 125; (with_reducible refine (CR.out _ _ _ _ _ HB zf zn).mono ?_); rintro e w3 ⟨rfl, hbk⟩; replace hbk := Bel.hid hbk; (with_reducible (replace HB := HB.up hbk; replace HR := HR.up hbk; replace HF := HF.up hbk; replace HT := HT.up hbk; replace H1 := H1.up hbk; replace zf := zf.up hbk)); clear hf_0 hf_1 hf_l ht_0 ht_1 ht_l hr_0 hr_1 hr_l hr_f0 hr_f1 h1_0 h1_l; have hf_0 := HF.c0; have hf_1 := HF.c1; have hf_l := HF.lt; have hr_0 := HR.c0; have hr_1 := HR.c1; have hr_l := HR.lt; have hr_f0 := HR.f0; have hr_f1 := HR.f1) | fail)
  rw [HT2.out]
  refine bodyPost_ret (v := .agg #[.bool sf, .slice Bf (dl f.natAbs) ef]) (by simp [results, Tryd.results90, go_sem, hr_0, hr_1]) rfl ?_
  rw [HSF.out] at zf ⊢
  exact ret_z HB (by omega) HR now2 zf
theorem whole_r (hz : ZA W b A n c p) (hq : Nm W A' n' c' q) (hm : 1 ≤ m ∧ m ≤ 7) (bp : p.natAbs < W32 ^ K) (bq : q < W32 ^ K) (hK : K ≤ 20000) : Calls Tryd.prog 90 #[.agg #[.bool b, .slice A n c], .agg #[.slice A' n' c'], .int .i64 m] W (ZR W (rdZ m p q)) := by
  by_cases h0 : q = 0
  · exact whole_0 hz hq hm bp bq hK h0
  · by_cases h1 : p % (q : Int) = 0
    · exact whole_i hz hq hm bp bq hK h0 h1
    · by_cases h2 : rdUp m (p / (q : Int)) (p % (q : Int)).natAbs q = true
      · exact whole_u hz hq hm bp bq hK h0 h1 h2
      · exact whole_d hz hq hm bp bq hK h0 h1 h2
end
end Go.Proofs.YteahcbeohopdlaaDoor
end

section
/- Package round: power, unit, multiple. Conditions: terms of at most 6000 words, powers of at most 2000. -/
open Go.RowKit
set_option maxRecDepth 100000
namespace Go.Proofs.YteahcbeohopdlaaDoor
/-- What a call leaves that returns a numeral: the number v, s digits behind the point. -/
def DvR (W : World) (b : Bool) (v : Nat) (s : Int) (e : Ending) (w' : World) : Prop := ∃ A c, e = .returned (.agg #[.bool b, .slice A (dl v) c, .int .i64 s]) ∧ Nm w' A (dl v) c v ∧ Hid (Below W.heap.size W w')
theorem At.uput3 {W : World} {p : Nat} {v0 v1 v2 : Value} (h : At W p [v0, v1, v2]) (x y z : Value) : At (((W.setCell ⟨p, 0, none⟩ x).setCell ⟨p, 1, none⟩ y).setCell ⟨p, 2, none⟩ z) p [x, y, z] := h.put3 x y z
theorem Nm.putd {W : World} {p : Nat} {A : Option Addr} {n c m : Nat} (h : Nm W A n c m) (hp : At W p [.bool false, .slice none 0 0, .int .i64 0]) (b : Bool) (B : Option Addr) (k d : Nat) (s : Int) :
    Nm (((W.setCell ⟨p, 0, none⟩ (.bool b)).setCell ⟨p, 1, none⟩ (.slice B k d)).setCell ⟨p, 2, none⟩ (.int .i64 s)) A n c m := h.putD hp nowD
theorem Bel.uput3 {w W : World} (h : Bel w W) {p : Nat} (hp : w.heap.size ≤ p) (x y z : Value) : Bel w (((W.setCell ⟨p, 0, none⟩ x).setCell ⟨p, 1, none⟩ y).setCell ⟨p, 2, none⟩ z) := below3 h hp x y z
theorem tenk_lt (k : Nat) : 10 ^ k < W32 ^ (k + 1) := by
  have h1 : 10 ^ k ≤ W32 ^ k := Nat.pow_le_pow_left (by decide) k
  have h2 : W32 ^ k < W32 ^ (k + 1) := Nat.pow_lt_pow_right (by decide) (by omega)
  omega
theorem tenk_dl {k : Nat} (hk : k ≤ 2000) : dl (10 ^ k) ≤ 2001 := Nat.le_trans (dl_le (tenk_lt k)) (Nat.succ_le_succ hk)
section
variable {W : World} {b b' : Bool} {A A' A2 : Option Addr} {n n' n2 c c' c2 m2 s K : Nat} {m : Int} {r : Rat}
theorem rpower_h {k : Nat} (hk : k ≤ 2000) : Calls Tryd.prog 122 #[.int .i64 (k : Int)] W (NumR W (10 ^ k)) := by
  obtain ⟨u, hu⟩ : ∃ u, u = 10 ^ k := ⟨_, rfl⟩
  have CO : Hid (∀ W', Calls Tryd.prog 40 #[.int .u64 10] W' (NumR W' 10)) := fun W' => of_h (v := 10) (by omega)
  have CP : Hid (∀ W' B e, Nm W' B (dl 10) e 10 → Calls Tryd.prog 126 #[.agg #[.slice B (dl 10) e], .int .i64 (k : Int)] W' (NumR W' u)) := fun W' B e h => pow_h h (by omega) (fun i hi => Nat.le_trans (tenk_dl (k := i) (by omega)) (by decide)) hu.symm
  have HU := hide hu
  clear hu
  have HB := Bel.refl W
  clear hk
  go_enter Tryd.func122, Tryd.ntmps122
  go_wp2_with (first | (go_at_call 40; (with_reducible refine (CO.out _).mono ?_); rintro e w1 ⟨B, e1, rfl, nb, hbk⟩; have HR := At.up (at_new0 _ _ _) hbk; replace HB := (HB.al _).up hbk) | (go_at_call 126; (with_reducible refine (CP.out _ _ _ nb).mono ?_); rintro e w2 ⟨B2, e2, rfl, nb2, hbk⟩; replace HB := HB.up hbk; replace HR := HR.up hbk; have hr_0 := HR.c0; have hr_l := HR.lt; have hr_f0 := HR.f0) | fail)
  refine bodyPost_ret (v := .agg #[.slice B2 (dl u) e2]) (by simp [results, Tryd.results122, go_sem, hr_0]) rfl ?_
  rw [HU.out]
  exact ret_n HB (Nat.le_refl _) HR now1 (by rw [← HU.out]; exact nb2)
theorem ret_d {w2 : World} {B : Option Addr} {d p v : Nat} {sg : Bool} {k : Int} (hW : Bel W w2) (hp : W.heap.size ≤ p) (hR : At w2 p [.bool false, .slice none 0 0, .int .i64 0]) (hn : Nm w2 B (dl v) d v) :
    DvR W sg v k (.returned (.agg #[.bool sg, .slice B (dl v) d, .int .i64 k])) (((w2.setCell ⟨p, 0, none⟩ (.bool sg)).setCell ⟨p, 1, none⟩ (.slice B (dl v) d)).setCell ⟨p, 2, none⟩ (.int .i64 k)) :=
  ⟨B, d, rfl, hn.putd hR _ _ _ _ _, hW.uput3 hp _ _ _⟩
theorem unit_p (hs : (0 : Int) ≤ (s : Int)) : Calls Tryd.prog 85 #[.int .i64 (s : Int)] W (DvR W false 1 (s : Int)) := by
  have C1 : Hid (∀ W', Calls Tryd.prog 40 #[.int .u64 1] W' (NumR W' 1)) := fun W' => of_h (v := 1) (by omega)
  have h1 : decide ((s : Int) < 0) = false := decide_eq_false (by omega)
  have HB := Bel.refl W
  go_enter Tryd.func85, Tryd.ntmps85
  go_wp2_with (first | (go_at_call 40; (with_reducible refine (C1.out _).mono ?_); rintro e w1 ⟨B, e1, rfl, nb, hbk⟩; have HR := At.up (at_new0 _ _ _) hbk; replace HB := (HB.al _).up hbk; have hr_0 := HR.c0; have hr_1 := HR.c1; have hr_2 := HR.c2; have hr_l := HR.lt; have hr_f0 := HR.f0; have hr_f1 := HR.f1; have hr_f2 := HR.f2) | fail)
  refine bodyPost_ret (v := .agg #[.bool false, .slice B (dl 1) e1, .int .i64 (s : Int)]) (by simp [results, Tryd.results85, go_sem, hr_0, hr_1, hr_2]) rfl ?_
  exact ret_d HB (Nat.le_refl _) HR nb
theorem unit_n {k : Nat} {i : Int} (hk : k ≤ 2000) (hi : -(k : Int) = i) (h0 : 0 < k) : Calls Tryd.prog 85 #[.int .i64 i] W (DvR W false (10 ^ k) 0) := by
  obtain ⟨u, hu⟩ : ∃ u, u = 10 ^ k := ⟨_, rfl⟩
  have CP : Hid (∀ W', Calls Tryd.prog 122 #[.int .i64 (k : Int)] W' (NumR W' u)) := fun W' => by rw [hu]; exact rpower_h hk
  have h1 : decide (i < 0) = true := decide_eq_true (by omega)
  have h1' : i < 0 := by omega
  have h2 : -i = (k : Int) := by omega
  have h3 : wrap64 (k : Int) = (k : Int) := IntWalk.wrap64_in _ (by omega)
  rw [← hu]
  clear hu hk hi h0
  have HB := Bel.refl W
  go_enter Tryd.func85, Tryd.ntmps85
  go_wp2_with (first | (go_at_call 122; (with_reducible refine (CP.out _).mono ?_); rintro e w1 ⟨B, e1, rfl, nb, hbk⟩; have HR := At.up (at_new0 _ _ _) hbk; replace HB := (HB.al _).up hbk; have hr_0 := HR.c0; have hr_1 := HR.c1; have hr_2 := HR.c2; have hr_l := HR.lt; have hr_f0 := HR.f0; have hr_f1 := HR.f1; have hr_f2 := HR.f2) | fail)
  refine bodyPost_ret (v := .agg #[.bool false, .slice B (dl u) e1, .int .i64 0]) (by simp [results, Tryd.results85, go_sem, hr_0, hr_1, hr_2]) rfl ?_
  exact ret_d HB (Nat.le_refl _) HR nb
set_option maxHeartbeats 16000000 in
theorem multiple_h (h : QA W b A n c A' n' c' r K) (hs : Nm W A2 n2 c2 m2) (bs : m2 < W32 ^ K) (hsc : s ≤ 60) (hm : 1 ≤ m ∧ m ≤ 7) (hK0 : 0 < K) (hK : K ≤ 6000) : Calls Tryd.prog 84 #[.agg #[.bool b, .slice A n c, .slice A' n' c'], .agg #[.bool b', .slice A2 n2 c2, .int .i64 (s : Int)], .int .i64 m] W (DvR W (decide (rdR m (r * mkRat (10 ^ s : Nat) m2) < 0)) ((rdR m (r * mkRat (10 ^ s : Nat) m2)).natAbs * m2) (s : Int)) := by
  obtain ⟨z, d, hz, hd, hr⟩ := h
  obtain ⟨p, hp⟩ : ∃ p, p = 10 ^ s := ⟨_, rfl⟩
  obtain ⟨x, hx⟩ : ∃ x : Int, z * (p : Int) = x := ⟨_, rfl⟩
  obtain ⟨y, hy⟩ : ∃ y : Nat, d * m2 = y := ⟨_, rfl⟩
  obtain ⟨t, ht⟩ : ∃ t, rdZ m x y = t := ⟨_, rfl⟩
  have HT : rdR m (r * mkRat (10 ^ s : Nat) m2) = t := by
    rw [← ht, ← hx, ← hy, rdZ_mk, ← hr.out.1, mul_mk, hp]
  rw [HT]
  obtain ⟨v, hv⟩ : ∃ v : Nat, t.natAbs * m2 = v := ⟨_, rfl⟩
  rw [hv]
  have bp : p < W32 ^ 61 := by rw [hp]; exact Nat.lt_of_lt_of_le (tenk_lt s) (Nat.pow_le_pow_right (by decide) (by omega))
  have bx : x.natAbs < W32 ^ (K + 61) := by rw [← hx]; exact bd_zmul hr.out.2.1 bp
  have by_ : y < W32 ^ (K + K) := by rw [← hy]; exact bd_mul hr.out.2.2 bs
  have bt : t.natAbs ≤ x.natAbs + 1 := by
    rw [← ht]
    have h1 := nabs_div_le x y
    unfold rdZ
    split
    · simp
    · split
      · omega
      · split <;> omega
  have bt2 : t.natAbs < W32 ^ (K + 62) := by
    have h1 : W32 ^ (K + 61) + 1 ≤ W32 ^ (K + 62) := Nat.pow_lt_pow_right (by decide) (by omega)
    omega
  have bv : v < W32 ^ (K + 62 + K) := by rw [← hv]; exact bd_mul bt2 bs
  have dv : dl v ≤ 100000 := Nat.le_trans (dl_le bv) (by omega)
  obtain ⟨sx, hsx⟩ : ∃ u, u = decide (x < 0) := ⟨_, rfl⟩
  obtain ⟨st, hst⟩ : ∃ u, u = decide (t < 0) := ⟨_, rfl⟩
  have CP : Hid (∀ W', Calls Tryd.prog 122 #[.int .i64 (s : Int)] W' (NumR W' p)) := fun W' => by rw [hp]; exact rpower_h (by omega)
  have CM : Hid (∀ W' B e, Bel W W' → Nm W' B (dl p) e p → Calls Tryd.prog 24 #[.agg #[.bool b, .slice A n c], .agg #[.bool false, .slice B (dl p) e]] W' (ZRu W' sx x)) := fun W' B e hb hn => by
    rw [hsx]
    exact zmul_h (hz.up hb.hid) (za_of (b := false) hn) (by rw [zi_false]; exact hx) (Nat.le_trans (dl_le bx) (by omega))
  have CN : Hid (∀ W', Bel W W' → Calls Tryd.prog 78 #[.agg #[.slice A' n' c'], .agg #[.slice A2 n2 c2]] W' (NumR W' y)) := fun W' hb => mul_h (hd.up hb.hid) (hs.up hb.hid) hy (Nat.le_trans (dl_le by_) (by omega))
  have CW : Hid (∀ W' B e B' e', ZA W' sx B (dl x.natAbs) e x → Nm W' B' (dl y) e' y → Calls Tryd.prog 90 #[.agg #[.bool sx, .slice B (dl x.natAbs) e], .agg #[.slice B' (dl y) e'], .int .i64 m] W' (ZRu W' st t)) := fun W' B e B' e' h1 h2 => by
    rw [hst, ← ht]
    have hb1 : x.natAbs < W32 ^ (K + K + 61) := Nat.lt_of_lt_of_le bx (Nat.pow_le_pow_right (by decide) (by omega))
    have hb2 : y < W32 ^ (K + K + 61) := Nat.lt_of_lt_of_le by_ (Nat.pow_le_pow_right (by decide) (by omega))
    exact whole_r h1 h2 hm hb1 hb2 (by omega)
  have CV : Hid (∀ W' B e, Bel W W' → Nm W' B (dl t.natAbs) e t.natAbs → Calls Tryd.prog 78 #[.agg #[.slice B (dl t.natAbs) e], .agg #[.slice A2 n2 c2]] W' (NumR W' v)) := fun W' B e hb h1 => mul_h h1 (hs.up hb.hid) hv dv
  rw [← hst]
  clear hz hd hr hs bs hsc hm hK hK0 hp hx hy ht HT hv bp bx by_ bt bt2 bv dv hsx hst
  have HB := Bel.refl W
  go_enter Tryd.func84, Tryd.ntmps84
  go_wp2_with fail
  obtain ⟨W1, hW1⟩ : ∃ X, X = ((W.alloc (.cells #[.bool b, .slice A n c, .slice A' n' c'] 65)).alloc (.cells #[.bool b', .slice A2 n2 c2, .int .i64 (s : Int)] 60)).alloc (.cells #[.bool false, .slice none 0 0, .int .i64 0] 60) := ⟨_, rfl⟩
  rw [← hW1]
  have H0 : At W1 W.heap.size [.bool b, .slice A n c, .slice A' n' c'] := by rw [hW1]; exact ((at_new0 _ _ _).al _).al _
  have H1 : At W1 (W.heap.size + 1) [.bool b', .slice A2 n2 c2, .int .i64 (s : Int)] := by rw [hW1]; exact (at_new1 _ _ _ _).al _
  have HR : At W1 (W.heap.size + 1 + 1) [.bool false, .slice none 0 0, .int .i64 0] := by rw [hW1]; exact at_new2 _ _ _ _ _
  replace HB : Bel W W1 := by rw [hW1]; exact ((HB.al _).al _).al _
  clear hW1
  have l0 := H0.lt
  have l1 := H1.lt
  have l2 := HR.lt
  go_cut [7] from 9 to 15 (fun o w => ∃ p B e, o = .pointer (some ⟨p, 0, none⟩) ∧ W.heap.size + 1 + 1 < p ∧ At w p [.bool sx, .slice B (dl x.natAbs) e] ∧ ZA w sx B (dl x.natAbs) e x ∧ Bel W1 w)
  case first =>
    have HW := Bel.refl W1
    go_region_held3 (fun w' => w'.cell? ⟨W.heap.size, 0, none⟩ = some (.bool b) ∧ w'.cell? ⟨W.heap.size, 1, none⟩ = some (.slice A n c) ∧ w'.cell? ⟨W.heap.size, 2, none⟩ = some (.slice A' n' c') ∧ w'.cell? ⟨W.heap.size + 1, 0, none⟩ = some (.bool b') ∧ w'.cell? ⟨W.heap.size + 1, 1, none⟩ = some (.slice A2 n2 c2) ∧ w'.cell? ⟨W.heap.size + 1, 2, none⟩ = some (.int .i64 (s : Int)))
      (refine ⟨(?_ : At _ W.heap.size [.bool b, .slice A n c, .slice A' n' c']).c0, (?_ : At _ W.heap.size [.bool b, .slice A n c, .slice A' n' c']).c1, (?_ : At _ W.heap.size [.bool b, .slice A n c, .slice A' n' c']).c2, (?_ : At _ (W.heap.size + 1) [.bool b', .slice A2 n2 c2, .int .i64 (s : Int)]).c0, (?_ : At _ (W.heap.size + 1) [.bool b', .slice A2 n2 c2, .int .i64 (s : Int)]).c1, (?_ : At _ (W.heap.size + 1) [.bool b', .slice A2 n2 c2, .int .i64 (s : Int)]).c2⟩ <;> (repeat (first | with_reducible exact H0 | with_reducible exact H1 | (with_reducible refine At.dr ?_) | (with_reducible refine At.al ?_ _) | (with_reducible refine At.far ?_ (by omega) _))))
      (first | (go_at_call 122; (with_reducible refine (CP.out _).mono ?_); rintro e w2 ⟨Bp, ep, rfl, np, hbk⟩; (with_reducible (replace HB := HB.dr.up hbk; replace HW := HW.dr.up hbk; replace H0 := H0.dr.up hbk; replace H1 := H1.dr.up hbk)); have lz0 := H0.lt; have lz1 := H1.lt; (try have lz2 := HP0.lt); have zs1 := Below.size HW) | (go_at_call 122; (with_reducible refine (CP.out _).mono ?_); rintro e w2 ⟨Bp, ep, rfl, np, hbk⟩; (with_reducible (have HP0 := At.up (at_new0 _ [.bool false, .slice none 0 0] _).dr hbk; replace HB := (HB.al _).dr.up hbk; replace HW := (HW.al _).dr.up hbk; replace H0 := (H0.al _).dr.up hbk; replace H1 := (H1.al _).dr.up hbk)); have lz0 := H0.lt; have lz1 := H1.lt; (try have lz2 := HP0.lt); have zs1 := Below.size HW) | (go_at_call 24; (with_reducible refine (CM.out _ _ _ HB np).mono ?_); rintro e w3 ⟨Bx, ex, rfl, zx, hbk⟩; (with_reducible (replace HB := HB.up hbk; replace HW := HW.up hbk; replace H0 := H0.up hbk; replace H1 := H1.up hbk)); (try (with_reducible replace HP0 := HP0.up hbk)); (try have hp0_0 := HP0.c0); (try have hp0_1 := HP0.c1); (try have fhp0_0 := HP0.f0); (try have fhp0_1 := HP0.f1); (try have lhp0 := HP0.lt); (try have hq0_0 := HQ0.c0); (try have hq0_1 := HQ0.c1); (try have fhq0_0 := HQ0.f0); (try have fhq0_1 := HQ0.f1); (try have lhq0 := HQ0.lt); have lz3 := H0.lt; have lz4 := H1.lt; have zs2 := Below.size HW) | (go_at_call 24; (with_reducible refine (CM.out _ _ _ (HB.al _) (np.al _)).mono ?_); rintro e w3 ⟨Bx, ex, rfl, zx, hbk⟩; (with_reducible (have HQ0 := At.up (at_new0 _ [.bool false, .slice none 0 0] _) hbk; replace HB := (HB.al _).up hbk; replace HW := (HW.al _).up hbk; replace H0 := (H0.al _).up hbk; replace H1 := (H1.al _).up hbk)); (try (with_reducible replace HP0 := (HP0.al _).up hbk)); (try have hp0_0 := HP0.c0); (try have hp0_1 := HP0.c1); (try have fhp0_0 := HP0.f0); (try have fhp0_1 := HP0.f1); (try have lhp0 := HP0.lt); (try have hq0_0 := HQ0.c0); (try have hq0_1 := HQ0.c1); (try have fhq0_0 := HQ0.f0); (try have fhq0_1 := HQ0.f1); (try have lhq0 := HQ0.lt); have lz3 := H0.lt; have lz4 := H1.lt; have zs2 := Below.size HW) | fail)
    all_goals
      go_wp2_with fail
      go_meet
      case rel =>
        have zn := zx.1
        refine ⟨_, _, _, rfl, (by first | omega | (show _ < W1.heap.size; omega) | (show _ < wc.heap.size; omega)), ?_, zx.mv ?_, ?_⟩ <;> (repeat (first | with_reducible exact zn | with_reducible exact HW | with_reducible exact HP0 | with_reducible exact HQ0 | with_reducible exact at_new0 _ _ _ | (with_reducible refine Bel.dr ?_) | (with_reducible refine Bel.al ?_ _) | (with_reducible refine Bel.put2 ?_ (by omega) _ _) | (with_reducible refine Nm.dr ?_) | (with_reducible refine Nm.al ?_ _) | (with_reducible refine Nm.putz ?_ ?_ _ _ _ _) | (with_reducible refine At.dr ?_) | (with_reducible refine At.al ?_ _) | (with_reducible refine At.put2 (v0 := .bool false) (v1 := .slice none 0 0) ?_ _ _) | (with_reducible refine At.far2 ?_ (by omega) _ _)))
  case rest =>
    obtain ⟨po, Bx, ex, rfl, hpo, HO, zx, hW⟩ := hcut
    replace HB := HB.up hW.hid
    replace H0 := H0.up hW.hid
    replace H1 := H1.up hW.hid
    replace HR := HR.up hW.hid
    clear hW l0 l1 l2
    have l0 := H0.lt
    have l1 := H1.lt
    have l2 := HR.lt
    have l3 := HO.lt
    go_wp2_with fail
    go_cut [8] from 16 to 23 (fun o w => ∃ p B e, o = .pointer (some ⟨p, 0, none⟩) ∧ W.heap.size + 1 + 1 < p ∧ At w p [.bool st, .slice B (dl t.natAbs) e] ∧ ZA w st B (dl t.natAbs) e t ∧ Bel wc w)
    case first =>
      have HW := Bel.refl wc
      go_region_held3 (fun w' => w'.cell? ⟨W.heap.size, 0, none⟩ = some (.bool b) ∧ w'.cell? ⟨W.heap.size, 1, none⟩ = some (.slice A n c) ∧ w'.cell? ⟨W.heap.size, 2, none⟩ = some (.slice A' n' c') ∧ w'.cell? ⟨W.heap.size + 1, 0, none⟩ = some (.bool b') ∧ w'.cell? ⟨W.heap.size + 1, 1, none⟩ = some (.slice A2 n2 c2) ∧ w'.cell? ⟨W.heap.size + 1, 2, none⟩ = some (.int .i64 (s : Int)) ∧ w'.cell? ⟨po, 0, none⟩ = some (.bool sx) ∧ w'.cell? ⟨po, 1, none⟩ = some (.slice Bx (dl x.natAbs) ex))
        (refine ⟨(?_ : At _ W.heap.size [.bool b, .slice A n c, .slice A' n' c']).c0, (?_ : At _ W.heap.size [.bool b, .slice A n c, .slice A' n' c']).c1, (?_ : At _ W.heap.size [.bool b, .slice A n c, .slice A' n' c']).c2, (?_ : At _ (W.heap.size + 1) [.bool b', .slice A2 n2 c2, .int .i64 (s : Int)]).c0, (?_ : At _ (W.heap.size + 1) [.bool b', .slice A2 n2 c2, .int .i64 (s : Int)]).c1, (?_ : At _ (W.heap.size + 1) [.bool b', .slice A2 n2 c2, .int .i64 (s : Int)]).c2, (?_ : At _ po [.bool sx, .slice Bx (dl x.natAbs) ex]).c0, (?_ : At _ po [.bool sx, .slice Bx (dl x.natAbs) ex]).c1⟩ <;> (repeat (first | with_reducible exact H0 | with_reducible exact H1 | with_reducible exact HO | (with_reducible refine At.dr ?_) | (with_reducible refine At.al ?_ _) | (with_reducible refine At.far ?_ (by omega) _))))
        (first | (go_at_call 78; (with_reducible refine (CN.out _ HB.dr).mono ?_); rintro e w4 ⟨By, ey, rfl, ny, hbk⟩; (with_reducible (replace HB := HB.dr.up hbk; replace HW := HW.dr.up hbk; replace H0 := H0.dr.up hbk; replace H1 := H1.dr.up hbk; replace HO := HO.dr.up hbk; replace zx := zx.dr.up hbk)); have lz0 := H0.lt; have lz1 := H1.lt; have lz5 := HO.lt; (try have lz2 := HP0.lt); have zs1 := Below.size HW) | (go_at_call 78; (with_reducible refine (CN.out _ (HB.al _).dr).mono ?_); rintro e w4 ⟨By, ey, rfl, ny, hbk⟩; (with_reducible (have HP0 := At.up (at_new0 _ [.bool false, .slice none 0 0] _).dr hbk; replace HB := (HB.al _).dr.up hbk; replace HW := (HW.al _).dr.up hbk; replace H0 := (H0.al _).dr.up hbk; replace H1 := (H1.al _).dr.up hbk; replace HO := (HO.al _).dr.up hbk; replace zx := (zx.al _).dr.up hbk)); have lz0 := H0.lt; have lz1 := H1.lt; have lz5 := HO.lt; (try have lz2 := HP0.lt); have zs1 := Below.size HW) | (go_at_call 90; (with_reducible refine (CW.out _ _ _ _ _ zx ny).mono ?_); rintro e w5 ⟨Bt, et, rfl, zt, hbk⟩; (with_reducible (replace HB := HB.up hbk; replace HW := HW.up hbk; replace H0 := H0.up hbk; replace H1 := H1.up hbk; replace HO := HO.up hbk)); (try (with_reducible replace HP0 := HP0.up hbk)); (try have hp0_0 := HP0.c0); (try have hp0_1 := HP0.c1); (try have fhp0_0 := HP0.f0); (try have fhp0_1 := HP0.f1); (try have lhp0 := HP0.lt); (try have hq0_0 := HQ0.c0); (try have hq0_1 := HQ0.c1); (try have fhq0_0 := HQ0.f0); (try have fhq0_1 := HQ0.f1); (try have lhq0 := HQ0.lt); have lz3 := H0.lt; have lz4 := H1.lt; have lz6 := HO.lt; have zs2 := Below.size HW) | (go_at_call 90; (with_reducible refine (CW.out _ _ _ _ _ (zx.al _) (ny.al _)).mono ?_); rintro e w5 ⟨Bt, et, rfl, zt, hbk⟩; (with_reducible (have HQ0 := At.up (at_new0 _ [.bool false, .slice none 0 0] _) hbk; replace HB := (HB.al _).up hbk; replace HW := (HW.al _).up hbk; replace H0 := (H0.al _).up hbk; replace H1 := (H1.al _).up hbk; replace HO := (HO.al _).up hbk)); (try (with_reducible replace HP0 := (HP0.al _).up hbk)); (try have hp0_0 := HP0.c0); (try have hp0_1 := HP0.c1); (try have fhp0_0 := HP0.f0); (try have fhp0_1 := HP0.f1); (try have lhp0 := HP0.lt); (try have hq0_0 := HQ0.c0); (try have hq0_1 := HQ0.c1); (try have fhq0_0 := HQ0.f0); (try have fhq0_1 := HQ0.f1); (try have lhq0 := HQ0.lt); have lz3 := H0.lt; have lz4 := H1.lt; have lz6 := HO.lt; have zs2 := Below.size HW) | fail)
      all_goals
        go_wp2_with fail
        go_meet
        case rel =>
          have zn := zt.1
          refine ⟨_, _, _, rfl, (by first | omega | (show _ < W1.heap.size; omega) | (show _ < wc.heap.size; omega)), ?_, zt.mv ?_, ?_⟩ <;> (repeat (first | with_reducible exact zn | with_reducible exact HW | with_reducible exact HP0 | with_reducible exact HQ0 | with_reducible exact at_new0 _ _ _ | (with_reducible refine Bel.dr ?_) | (with_reducible refine Bel.al ?_ _) | (with_reducible refine Bel.put2 ?_ (by omega) _ _) | (with_reducible refine Nm.dr ?_) | (with_reducible refine Nm.al ?_ _) | (with_reducible refine Nm.putz ?_ ?_ _ _ _ _) | (with_reducible refine At.dr ?_) | (with_reducible refine At.al ?_ _) | (with_reducible refine At.put2 (v0 := .bool false) (v1 := .slice none 0 0) ?_ _ _) | (with_reducible refine At.far2 ?_ (by omega) _ _)))
    case rest =>
      obtain ⟨pt, Bt, et, rfl, hpt, HT, zt, hW⟩ := hcut
      replace HB := HB.up hW.hid
      replace H0 := H0.up hW.hid
      replace H1 := H1.up hW.hid
      replace HR := HR.up hW.hid
      clear hW l0 l1 l2 l3 HO zx
      have l0 := H0.lt
      have l1 := H1.lt
      have l2 := HR.lt
      have l3 := HT.lt
      have nt := zt.1
      go_wp2_with fail
      go_region_held3 (fun w' => w'.cell? ⟨W.heap.size + 1, 0, none⟩ = some (.bool b') ∧ w'.cell? ⟨W.heap.size + 1, 1, none⟩ = some (.slice A2 n2 c2) ∧ w'.cell? ⟨W.heap.size + 1, 2, none⟩ = some (.int .i64 (s : Int)) ∧ w'.cell? ⟨pt, 0, none⟩ = some (.bool st) ∧ w'.cell? ⟨pt, 1, none⟩ = some (.slice Bt (dl t.natAbs) et))
        (refine ⟨(?_ : At _ (W.heap.size + 1) [.bool b', .slice A2 n2 c2, .int .i64 (s : Int)]).c0, (?_ : At _ (W.heap.size + 1) [.bool b', .slice A2 n2 c2, .int .i64 (s : Int)]).c1, (?_ : At _ (W.heap.size + 1) [.bool b', .slice A2 n2 c2, .int .i64 (s : Int)]).c2, (?_ : At _ pt [.bool st, .slice Bt (dl t.natAbs) et]).c0, (?_ : At _ pt [.bool st, .slice Bt (dl t.natAbs) et]).c1⟩ <;> (repeat (first | with_reducible exact H1 | with_reducible exact HT | (with_reducible refine At.dr ?_) | (with_reducible refine At.al ?_ _) | (with_reducible refine At.far ?_ (by omega) _))))
        (first | (go_at_call 78; (with_reducible refine (CV.out _ _ _ HB.dr nt.dr).mono ?_); rintro e w6 ⟨Bv, ev, rfl, nv, hbk⟩; (with_reducible (replace HB := HB.dr.up hbk; replace H1 := H1.dr.up hbk; replace HR := HR.dr.up hbk; replace HT := HT.dr.up hbk)); have hr_0 := HR.c0; have hr_1 := HR.c1; have hr_2 := HR.c2; have hr_l := HR.lt; have hr_f0 := HR.f0; have hr_f1 := HR.f1; have hr_f2 := HR.f2) | fail)
      go_wp2_with fail
      refine bodyPost_ret (v := .agg #[.bool st, .slice Bv (dl v) ev, .int .i64 (s : Int)]) (by simp [results, Tryd.results84, go_sem, hr_0, hr_1, hr_2]) rfl ?_
      exact ret_d HB (by omega) HR nv
end
end Go.Proofs.YteahcbeohopdlaaDoor
end
