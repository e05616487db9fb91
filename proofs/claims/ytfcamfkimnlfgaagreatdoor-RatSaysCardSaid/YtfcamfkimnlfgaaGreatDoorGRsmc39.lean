/- Several texts in one, each with its own sentence and conditions. -/
import Derived.Test.YtfcamfkimnlfgaaGreatDoorGRsmc38
import Derived.Test.YtfcamfkimnlfgaaGreatDoorGRsmc37
section
/- The document's own fractions: QParse of any text. Conditions: at most 99999 bytes. -/
open Go.RowKit
set_option maxRecDepth 100000
namespace Go.Proofs.YtfcamfkimnlfgaaGreatDoor
def RPz (W : World) (sg : Bool) (z : Int) (e : Ending) (w' : World) : Prop := ∃ A c, e = .returned (.tuple #[.agg #[.bool sg, .slice A (dq z.natAbs) c], .bool true]) ∧ Rz w' sg A c z ∧ Hid (Below W.heap.size W w')
section
variable {W : World} {s : ByteArray} {m : Nat}
set_option maxHeartbeats 4000000 in
/-- What stands ahead of the line is no number. -/
theorem rqparse_1 (hs : s.size ≤ 99999) (hm : m ≤ s.size) (hpre : ∀ i (h : i < s.size), i < m → s[i] ≠ 47) (hend : ∀ h : m < s.size, s[m] = 47) (hz : ∀ W', Calls Tryz.prog 79 #[.string (s.extract 0 m)] W' (RzN W')) : Calls Tryz.prog 11 #[.string s] W (RQno W) := by
  have CZ := hide hz
  have CI : Hid (∀ W', Calls Tryz.prog 72 #[.int .i64 0] W' (RQk W' false 0 1)) := fun W' => rqint_h (by decide) (by decide) rfl
  clear hz
  have HPRE := hide hpre
  have HEND := hide hend
  clear hpre hend
  have HB := Bel.refl W
  go_enter Tryz.func11, Tryz.ntmps11
  go_wp2_with fail
  obtain ⟨W3, hW3⟩ : ∃ X, X = W.alloc (.cells #[.bool false, .slice none 0 0, .slice none 0 0] 36) := ⟨_, rfl⟩
  rw [← hW3]
  have HR : At W3 W.heap.size [.bool false, .slice none 0 0, .slice none 0 0] := by rw [hW3]; exact at_new0 _ _ _
  replace HB : Bel W W3 := by rw [hW3]; exact HB.al _
  clear hW3
  go_loopw [4] (fun iv wr => ∃ i : Nat, i ≤ m ∧ iv = .int .i64 (i : Int) ∧ wr = W3) (fun iv _ => m - (intOf iv).toNat)
  case atStart => exact ⟨0, Nat.zero_le _, rfl, by first | rfl | trivial⟩
  case round =>
    obtain ⟨i, hi, rfl, rfl⟩ := hrel
    by_cases hlt : i < m
    · have his : i < s.size := by omega
      have hL : (i : Int) < (s.size : Int) := by omega
      have hne : ((s[i].toNat : Int) != 47) = true := by
        have h1 := HPRE.out i his hlt
        refine bne_iff_ne.2 fun h2 => h1 (UInt8.toNat_inj.1 ?_)
        have h3 : s[i].toNat = 47 := by omega
        exact h3
      go_wp2_with fail
      go_roundw
      case rel => exact ⟨i + 1, by omega, by go_num, by first | rfl | trivial⟩
      case measure => simp [intOf]; omega
    · obtain rfl : i = m := by omega
      by_cases hms : i < s.size
      · have hL : (i : Int) < (s.size : Int) := by omega
        have heq : ((s[i].toNat : Int) != 47) = false := by
          rw [HEND.out hms]; rfl
        have hne2 : ((i : Int) == (s.size : Int)) = false := by
          cases e : ((i : Int) == (s.size : Int)) with
          | false => rfl
          | true => have h5 : (i : Int) = (s.size : Int) := by simpa using e
                    omega
        go_wp2_with (first | (go_at_call 79; (with_reducible refine (CZ.out _).mono ?_); rintro e w1 ⟨rfl, hbk⟩; replace HR := HR.up hbk; replace HB := HB.up hbk) | (go_at_call 72; (with_reducible refine (CI.out _).mono ?_); rintro e w2 ⟨F, f, G, g, rfl, m1, m2, hbk⟩; replace HR := (HR.al _).up hbk; replace HB := (HB.al _).up hbk; have hr_0 := HR.c0; have hr_1 := HR.c1; have hr_2 := HR.c2; have hr_l := HR.lt; have hr_f0 := HR.f0; have hr_f1 := HR.f1; have hr_f2 := HR.f2) | fail)
        refine bodyPost_ret (v := .tuple #[.agg #[.bool false, .slice F (dq 0) f, .slice G (dq 1) g], .bool false]) (by simp [results, Tryz.results11, go_sem, hr_0, hr_1, hr_2]) rfl ?_
        exact ⟨_, _, _, _, _, _, _, rfl, below3 HB (Nat.le_refl _) _ _ _⟩
      · have hL : ¬ (i : Int) < (s.size : Int) := by omega
        go_wp2_with (first | (go_at_call 79; (with_reducible refine (CZ.out _).mono ?_); rintro e w1 ⟨rfl, hbk⟩; replace HR := HR.up hbk; replace HB := HB.up hbk) | (go_at_call 72; (with_reducible refine (CI.out _).mono ?_); rintro e w2 ⟨F, f, G, g, rfl, m1, m2, hbk⟩; replace HR := (HR.al _).up hbk; replace HB := (HB.al _).up hbk; have hr_0 := HR.c0; have hr_1 := HR.c1; have hr_2 := HR.c2; have hr_l := HR.lt; have hr_f0 := HR.f0; have hr_f1 := HR.f1; have hr_f2 := HR.f2) | fail)
        refine bodyPost_ret (v := .tuple #[.agg #[.bool false, .slice F (dq 0) f, .slice G (dq 1) g], .bool false]) (by simp [results, Tryz.results11, go_sem, hr_0, hr_1, hr_2]) rfl ?_
        exact ⟨_, _, _, _, _, _, _, rfl, below3 HB (Nat.le_refl _) _ _ _⟩
set_option maxHeartbeats 4000000 in
/-- What stands behind the line is no number. -/
theorem rqparse_3 {v : Int} (hs : s.size ≤ 99999) (hm : m ≤ s.size) (hpre : ∀ i (h : i < s.size), i < m → s[i] ≠ 47) (hend : ∀ h : m < s.size, s[m] = 47) (hms : m < s.size) (hz : ∀ W', Calls Tryz.prog 79 #[.string (s.extract 0 m)] W' (RzY W' v)) (hq : ∀ W', Calls Tryz.prog 80 #[.string (s.extract (m + 1) s.size)] W' (RpN W')) : Calls Tryz.prog 11 #[.string s] W (RQno W) := by
  obtain ⟨sv, hsv⟩ : ∃ u, u = decide (v < 0) := ⟨_, rfl⟩
  have CZ : Hid (∀ W', Calls Tryz.prog 79 #[.string (s.extract 0 m)] W' (RPz W' sv v)) := fun W' => by rw [hsv]; exact hz W'
  have HSV := hide hsv
  clear hz hsv
  have CP := hide hq
  have CI : Hid (∀ W', Calls Tryz.prog 72 #[.int .i64 0] W' (RQk W' false 0 1)) := fun W' => rqint_h (by decide) (by decide) rfl
  clear hq
  have HPRE := hide hpre
  have HEND := hide hend
  clear hpre hend
  have HB := Bel.refl W
  go_enter Tryz.func11, Tryz.ntmps11
  go_wp2_with fail
  obtain ⟨W3, hW3⟩ : ∃ X, X = W.alloc (.cells #[.bool false, .slice none 0 0, .slice none 0 0] 36) := ⟨_, rfl⟩
  rw [← hW3]
  have HR : At W3 W.heap.size [.bool false, .slice none 0 0, .slice none 0 0] := by rw [hW3]; exact at_new0 _ _ _
  replace HB : Bel W W3 := by rw [hW3]; exact HB.al _
  clear hW3
  go_loopw [4] (fun iv wr => ∃ i : Nat, i ≤ m ∧ iv = .int .i64 (i : Int) ∧ wr = W3) (fun iv _ => m - (intOf iv).toNat)
  case atStart => exact ⟨0, Nat.zero_le _, rfl, by first | rfl | trivial⟩
  case round =>
    obtain ⟨i, hi, rfl, rfl⟩ := hrel
    by_cases hlt : i < m
    · have his : i < s.size := by omega
      have hL : (i : Int) < (s.size : Int) := by omega
      have hne : ((s[i].toNat : Int) != 47) = true := by
        have h1 := HPRE.out i his hlt
        refine bne_iff_ne.2 fun h2 => h1 (UInt8.toNat_inj.1 ?_)
        have h3 : s[i].toNat = 47 := by omega
        exact h3
      go_wp2_with fail
      go_roundw
      case rel => exact ⟨i + 1, by omega, by go_num, by first | rfl | trivial⟩
      case measure => simp [intOf]; omega
    · obtain rfl : i = m := by omega
      have hL : (i : Int) < (s.size : Int) := by omega
      have heq : ((s[i].toNat : Int) != 47) = false := by
        rw [HEND.out hms]; rfl
      have hne2 : ((i : Int) == (s.size : Int)) = false := by
        cases e : ((i : Int) == (s.size : Int)) with
        | false => rfl
        | true => have h5 : (i : Int) = (s.size : Int) := by simpa using e
                  omega
      go_wp2_with (first | (go_at_call 79; (with_reducible refine (CZ.out _).mono ?_); rintro e w1 ⟨A, c, rfl, nz, hbk⟩; replace HR := HR.up hbk; replace HB := HB.up hbk) | (go_at_call 80; (with_reducible refine (CP.out _).mono ?_); rintro e w3 ⟨xa, xn, xc, rfl, hbk⟩; replace HR := (HR.al _).up hbk; replace HB := (HB.al _).up hbk) | (go_at_call 72; (with_reducible refine (CI.out _).mono ?_); rintro e w2 ⟨F, f, G, g, rfl, m1, m2, hbk⟩; replace HR := HR.up hbk; replace HB := HB.up hbk; have hr_0 := HR.c0; have hr_1 := HR.c1; have hr_2 := HR.c2; have hr_l := HR.lt; have hr_f0 := HR.f0; have hr_f1 := HR.f1; have hr_f2 := HR.f2) | fail)
      refine bodyPost_ret (v := .tuple #[.agg #[.bool false, .slice F (dq 0) f, .slice G (dq 1) g], .bool false]) (by simp [results, Tryz.results11, go_sem, hr_0, hr_1, hr_2]) rfl ?_
      exact ⟨_, _, _, _, _, _, _, rfl, below3 HB (Nat.le_refl _) _ _ _⟩
set_option maxHeartbeats 4000000 in
/-- What stands behind the line is nought. -/
theorem rqparse_4 {v : Int} (hs : s.size ≤ 99999) (hm : m ≤ s.size) (hpre : ∀ i (h : i < s.size), i < m → s[i] ≠ 47) (hend : ∀ h : m < s.size, s[m] = 47) (hms : m < s.size) (hz : ∀ W', Calls Tryz.prog 79 #[.string (s.extract 0 m)] W' (RzY W' v)) (hq : ∀ W', Calls Tryz.prog 80 #[.string (s.extract (m + 1) s.size)] W' (RpY W' 0)) : Calls Tryz.prog 11 #[.string s] W (RQno W) := by
  obtain ⟨sv, hsv⟩ : ∃ u, u = decide (v < 0) := ⟨_, rfl⟩
  have CZ : Hid (∀ W', Calls Tryz.prog 79 #[.string (s.extract 0 m)] W' (RPz W' sv v)) := fun W' => by rw [hsv]; exact hz W'
  have HSV := hide hsv
  clear hz hsv
  obtain ⟨d, hd⟩ : ∃ d : Nat, d = 0 := ⟨_, rfl⟩
  have CP : Hid (∀ W', Calls Tryz.prog 80 #[.string (s.extract (m + 1) s.size)] W' (RpY W' d)) := fun W' => by rw [hd]; exact hq W'
  have hq0 : ((dq d : Int) == 0) = true := by rw [hd, dq_zero]; rfl
  have CI : Hid (∀ W', Calls Tryz.prog 72 #[.int .i64 0] W' (RQk W' false 0 1)) := fun W' => rqint_h (by decide) (by decide) rfl
  clear hq hd
  have HPRE := hide hpre
  have HEND := hide hend
  clear hpre hend
  have HB := Bel.refl W
  go_enter Tryz.func11, Tryz.ntmps11
  go_wp2_with fail
  obtain ⟨W3, hW3⟩ : ∃ X, X = W.alloc (.cells #[.bool false, .slice none 0 0, .slice none 0 0] 36) := ⟨_, rfl⟩
  rw [← hW3]
  have HR : At W3 W.heap.size [.bool false, .slice none 0 0, .slice none 0 0] := by rw [hW3]; exact at_new0 _ _ _
  replace HB : Bel W W3 := by rw [hW3]; exact HB.al _
  clear hW3
  go_loopw [4] (fun iv wr => ∃ i : Nat, i ≤ m ∧ iv = .int .i64 (i : Int) ∧ wr = W3) (fun iv _ => m - (intOf iv).toNat)
  case atStart => exact ⟨0, Nat.zero_le _, rfl, by first | rfl | trivial⟩
  case round =>
    obtain ⟨i, hi, rfl, rfl⟩ := hrel
    by_cases hlt : i < m
    · have his : i < s.size := by omega
      have hL : (i : Int) < (s.size : Int) := by omega
      have hne : ((s[i].toNat : Int) != 47) = true := by
        have h1 := HPRE.out i his hlt
        refine bne_iff_ne.2 fun h2 => h1 (UInt8.toNat_inj.1 ?_)
        have h3 : s[i].toNat = 47 := by omega
        exact h3
      go_wp2_with fail
      go_roundw
      case rel => exact ⟨i + 1, by omega, by go_num, by first | rfl | trivial⟩
      case measure => simp [intOf]; omega
    · obtain rfl : i = m := by omega
      have hL : (i : Int) < (s.size : Int) := by omega
      have heq : ((s[i].toNat : Int) != 47) = false := by
        rw [HEND.out hms]; rfl
      have hne2 : ((i : Int) == (s.size : Int)) = false := by
        cases e : ((i : Int) == (s.size : Int)) with
        | false => rfl
        | true => have h5 : (i : Int) = (s.size : Int) := by simpa using e
                  omega
      go_wp2_with (first | (go_at_call 79; (with_reducible refine (CZ.out _).mono ?_); rintro e w1 ⟨A, c, rfl, nz, hbk⟩; replace HR := HR.up hbk; replace HB := HB.up hbk) | (go_at_call 80; (with_reducible refine (CP.out _).mono ?_); rintro e w3 ⟨X, j, rfl, nq, hbk⟩; replace HR := (HR.al _).up hbk; replace HB := (HB.al _).up hbk) | (go_at_call 72; (with_reducible refine (CI.out _).mono ?_); rintro e w2 ⟨F, f, G, g, rfl, m1, m2, hbk⟩; replace HR := HR.up hbk; replace HB := HB.up hbk; have hr_0 := HR.c0; have hr_1 := HR.c1; have hr_2 := HR.c2; have hr_l := HR.lt; have hr_f0 := HR.f0; have hr_f1 := HR.f1; have hr_f2 := HR.f2) | fail)
      refine bodyPost_ret (v := .tuple #[.agg #[.bool false, .slice F (dq 0) f, .slice G (dq 1) g], .bool false]) (by simp [results, Tryz.results11, go_sem, hr_0, hr_1, hr_2]) rfl ?_
      exact ⟨_, _, _, _, _, _, _, rfl, below3 HB (Nat.le_refl _) _ _ _⟩
set_option maxHeartbeats 4000000 in
/-- A fraction. -/
theorem rqparse_5 {v : Int} {d : Nat} {r : Rat} {sr : Bool} (hs : s.size ≤ 99999) (hm : m ≤ s.size) (hpre : ∀ i (h : i < s.size), i < m → s[i] ≠ 47) (hend : ∀ h : m < s.size, s[m] = 47) (hms : m < s.size) (hz : ∀ W', Calls Tryz.prog 79 #[.string (s.extract 0 m)] W' (RzY W' v)) (hq : ∀ W', Calls Tryz.prog 80 #[.string (s.extract (m + 1) s.size)] W' (RpY W' d)) (h0 : 0 < d) (hl : dq v.natAbs ≤ 99999) (hl' : dq d ≤ 99999) (hr : mkRat v d = r) (hsr : sr = decide (r.num < 0)) : Calls Tryz.prog 11 #[.string s] W (RQt W sr r.num r.den) := by
  obtain ⟨sv, hsv⟩ : ∃ u, u = decide (v < 0) := ⟨_, rfl⟩
  have CZ : Hid (∀ W', Calls Tryz.prog 79 #[.string (s.extract 0 m)] W' (RPz W' sv v)) := fun W' => by rw [hsv]; exact hz W'
  have HSV := hide hsv
  clear hz hsv
  have CP := hide hq
  have CQ : Hid (∀ W' F f G g, Rz W' sv F f v → Rn W' G g d → Calls Tryz.prog 69 #[.agg #[.bool sv, .slice F (dq v.natAbs) f], .slice G (dq d) g] W' (RQm W' sr r.num r.den)) := fun W' F f G g g1 g2 => by
    have h2 := rqof_h (b := sv) g1.1 g2 g1.zi h0 hr hl hl'
    rw [hsr]
    exact h2.mono fun _ _ ⟨A, c, A', c', he, n1, n2, hb⟩ => ⟨A, c, A', c', he, ⟨n1, rfl⟩, n2, hb⟩
  have hq0 : ((dq d : Int) == 0) = false := by
    have h9 := dq_pos.2 h0
    cases e : ((dq d : Int) == 0) with
    | false => rfl
    | true => have h5 : (dq d : Int) = 0 := by simpa using e
              omega
  clear hq h0 hl hl' hr hsr
  have HPRE := hide hpre
  have HEND := hide hend
  clear hpre hend
  have HB := Bel.refl W
  go_enter Tryz.func11, Tryz.ntmps11
  go_wp2_with fail
  obtain ⟨W3, hW3⟩ : ∃ X, X = W.alloc (.cells #[.bool false, .slice none 0 0, .slice none 0 0] 36) := ⟨_, rfl⟩
  rw [← hW3]
  have HR : At W3 W.heap.size [.bool false, .slice none 0 0, .slice none 0 0] := by rw [hW3]; exact at_new0 _ _ _
  replace HB : Bel W W3 := by rw [hW3]; exact HB.al _
  clear hW3
  go_loopw [4] (fun iv wr => ∃ i : Nat, i ≤ m ∧ iv = .int .i64 (i : Int) ∧ wr = W3) (fun iv _ => m - (intOf iv).toNat)
  case atStart => exact ⟨0, Nat.zero_le _, rfl, by first | rfl | trivial⟩
  case round =>
    obtain ⟨i, hi, rfl, rfl⟩ := hrel
    by_cases hlt : i < m
    · have his : i < s.size := by omega
      have hL : (i : Int) < (s.size : Int) := by omega
      have hne : ((s[i].toNat : Int) != 47) = true := by
        have h1 := HPRE.out i his hlt
        refine bne_iff_ne.2 fun h2 => h1 (UInt8.toNat_inj.1 ?_)
        have h3 : s[i].toNat = 47 := by omega
        exact h3
      go_wp2_with fail
      go_roundw
      case rel => exact ⟨i + 1, by omega, by go_num, by first | rfl | trivial⟩
      case measure => simp [intOf]; omega
    · obtain rfl : i = m := by omega
      have hL : (i : Int) < (s.size : Int) := by omega
      have heq : ((s[i].toNat : Int) != 47) = false := by
        rw [HEND.out hms]; rfl
      have hne2 : ((i : Int) == (s.size : Int)) = false := by
        cases e : ((i : Int) == (s.size : Int)) with
        | false => rfl
        | true => have h5 : (i : Int) = (s.size : Int) := by simpa using e
                  omega
      go_wp2_with (first | (go_at_call 79; (with_reducible refine (CZ.out _).mono ?_); rintro e w1 ⟨A, c, rfl, nz, hbk⟩; replace HR := HR.up hbk; replace HB := HB.up hbk) | (go_at_call 80; (with_reducible refine (CP.out _).mono ?_); rintro e w3 ⟨X, j, rfl, nq, hbk⟩; have HZ : At w3 w1.heap.size [.bool sv, .slice A (dq v.natAbs) c] := At.up (at_new0 _ _ _) hbk; replace HR := (HR.al _).up hbk; replace HB := (HB.al _).up hbk; replace nz := (nz.al _).up hbk; have hz_0 := HZ.c0; have hz_1 := HZ.c1; have hz_l := HZ.lt) | (go_at_call 69; (with_reducible refine (CQ.out _ _ _ _ _ nz nq).mono ?_); rintro e w4 ⟨F, f, G, g, rfl, n1, n2, hbk⟩; replace HR := HR.up hbk; replace HB := HB.up hbk; have hr_0 := HR.c0; have hr_1 := HR.c1; have hr_2 := HR.c2; have hr_l := HR.lt; have hr_f0 := HR.f0; have hr_f1 := HR.f1; have hr_f2 := HR.f2) | fail)
      refine bodyPost_ret (v := .tuple #[.agg #[.bool sr, .slice F (dq r.num.natAbs) f, .slice G (dq r.den) g], .bool true]) (by simp [results, Tryz.results11, go_sem, hr_0, hr_1, hr_2]) rfl ?_
      exact ⟨F, f, G, g, rfl, ⟨n1.1.put3 HR, n1.2⟩, n2.put3 HR, below3 HB (Nat.le_refl _) _ _ _⟩
set_option maxHeartbeats 4000000 in
/-- A number without a line. -/
theorem rqparse_2 {v : Int} (hs : s.size ≤ 99999) (hm : m = s.size) (hpre : ∀ i (h : i < s.size), i < m → s[i] ≠ 47) (hend : ∀ h : m < s.size, s[m] = 47) (hz : ∀ W', Calls Tryz.prog 79 #[.string (s.extract 0 m)] W' (RzY W' v)) {sr : Bool} (hsr : sr = decide (v < 0)) : Calls Tryz.prog 11 #[.string s] W (RQt W sr v 1) := by
  obtain ⟨sv, hsv⟩ : ∃ u, u = decide (v < 0) := ⟨_, rfl⟩
  have CZ : Hid (∀ W', Calls Tryz.prog 79 #[.string (s.extract 0 m)] W' (RPz W' sv v)) := fun W' => by rw [hsv]; exact hz W'
  have HSV := hide hsv
  clear hz hsv
  have hL0 : ¬ (m : Int) < (s.size : Int) := by omega
  have hL02 : ((m : Int) == (s.size : Int)) = true := by rw [hm]; exact beq_self_eq_true _
  have hm3 : m ≤ s.size := by omega
  clear hm
  have hsv : sv = sr := HSV.out.trans hsr.symm
  subst hsv
  clear hsr
  have CS : Hid (∀ W', Calls Tryz.prog 71 #[.int .u64 1] W' (RefPost W' 1)) := fun W' => Small_any (n := 1) (by decide)
  have HPRE := hide hpre
  have HEND := hide hend
  clear hpre hend
  have HB := Bel.refl W
  go_enter Tryz.func11, Tryz.ntmps11
  go_wp2_with fail
  obtain ⟨W3, hW3⟩ : ∃ X, X = W.alloc (.cells #[.bool false, .slice none 0 0, .slice none 0 0] 36) := ⟨_, rfl⟩
  rw [← hW3]
  have HR : At W3 W.heap.size [.bool false, .slice none 0 0, .slice none 0 0] := by rw [hW3]; exact at_new0 _ _ _
  replace HB : Bel W W3 := by rw [hW3]; exact HB.al _
  clear hW3
  go_loopw [4] (fun iv wr => ∃ i : Nat, i ≤ m ∧ iv = .int .i64 (i : Int) ∧ wr = W3) (fun iv _ => m - (intOf iv).toNat)
  case atStart => exact ⟨0, Nat.zero_le _, rfl, by first | rfl | trivial⟩
  case round =>
    obtain ⟨i, hi, rfl, rfl⟩ := hrel
    by_cases hlt : i < m
    · have his : i < s.size := by omega
      have hL : (i : Int) < (s.size : Int) := by omega
      have hne : ((s[i].toNat : Int) != 47) = true := by
        have h1 := HPRE.out i his hlt
        refine bne_iff_ne.2 fun h2 => h1 (UInt8.toNat_inj.1 ?_)
        have h3 : s[i].toNat = 47 := by omega
        exact h3
      go_wp2_with fail
      go_roundw
      case rel => exact ⟨i + 1, by omega, by go_num, by first | rfl | trivial⟩
      case measure => simp [intOf]; omega
    · obtain rfl : i = m := by omega
      go_wp2_with (first | (go_at_call 79; (with_reducible refine (CZ.out _).mono ?_); rintro e w1 ⟨A, c, rfl, nz, hbk⟩; replace HR := HR.up hbk; replace HB := HB.up hbk) | fail)
      obtain ⟨W4, hW4⟩ : ∃ X, X = w1.alloc (.cells #[.bool sv, .slice A (dq v.natAbs) c] 34) := ⟨_, rfl⟩
      rw [← hW4]
      obtain ⟨pz, hpz⟩ : ∃ p, p = w1.heap.size := ⟨_, rfl⟩
      rw [← hpz]
      have HZ : At W4 pz [.bool sv, .slice A (dq v.natAbs) c] := by rw [hW4, hpz]; exact at_new0 _ _ _
      have hlp : W.heap.size < pz := by rw [hpz]; exact HR.lt
      replace HR : At W4 W.heap.size [.bool false, .slice none 0 0, .slice none 0 0] := by rw [hW4]; exact HR.al _
      replace HB : Bel W W4 := by rw [hW4]; exact HB.al _
      replace nz : Rz W4 sv A c v := by rw [hW4]; exact nz.al _
      clear hW4 hpz
      go_region_held3 (fun w' => w'.cell? ⟨pz, 0, none⟩ = some (.bool sv) ∧ w'.cell? ⟨pz, 1, none⟩ = some (.slice A (dq v.natAbs) c))
        (refine ⟨(?_ : At _ pz [.bool sv, .slice A (dq v.natAbs) c]).c0, (?_ : At _ pz [.bool sv, .slice A (dq v.natAbs) c]).c1⟩ <;> (repeat (first | with_reducible exact HZ | (with_reducible refine At.dr ?_) | (with_reducible refine At.al ?_ _) | (with_reducible refine At.far ?_ (by omega) _))))
        (first | (go_at_call 71; (with_reducible refine (CS.out _).mono ?_); rintro e w5 ⟨G, g, rfl, n1, hbk⟩; (with_reducible (replace HZ := HZ.dr.up hbk; replace HR := HR.dr.up hbk; replace HB := HB.dr.up hbk; replace nz := nz.dr.up hbk)); replace n1 := Rn.of n1; have hr_0 := HR.c0; have hr_1 := HR.c1; have hr_2 := HR.c2; have hr_l := HR.lt; have hr_f0 := HR.f0; have hr_f1 := HR.f1; have hr_f2 := HR.f2) | fail)
      go_wp2_with fail
      refine bodyPost_ret (v := .tuple #[.agg #[.bool sv, .slice A (dq v.natAbs) c, .slice G (dq 1) g], .bool true]) (by simp [results, Tryz.results11, go_sem, hr_0, hr_1, hr_2]) rfl ?_
      exact ⟨A, c, G, g, rfl, ⟨nz.1.put3 HR, nz.2⟩, n1.put3 HR, below3 HB (Nat.le_refl _) _ _ _⟩
end
end Go.Proofs.YtfcamfkimnlfgaaGreatDoor
end

section
/- rat.Parse of a text without a line that is no number. Conditions: at most 99999 bytes. -/
open Go.RowKit
set_option maxRecDepth 100000
namespace Go.Proofs.YtfcamfkimnlfgaaGreatDoor
set_option maxHeartbeats 2000000 in
theorem rparse_n0 {W : World} {s : ByteArray} (hs : s.size ≤ 99999) (ht : ¬ (47 : UInt8) ∈ s.data.toList) (hz : ∀ W', Calls Tryz.prog 76 #[.string s] W' (ZPN W')) :
    Calls Tryz.prog 10 #[.string s] W (OfNo W) := by
  have CC := hide (fun W' => slash_miss (s := s) W' (by omega) ht)
  have CZ := hide hz
  clear hs ht hz
  have HB := Bel.refl W
  go_enter Tryz.func10, Tryz.ntmps10
  go_wp2_with (first | (go_at_call 75; (with_reducible refine (CC.out _).mono ?_); rintro e w1 ⟨u, rfl, hbk⟩; have HR := At.up (at_new0 _ _ _) hbk; replace HB := (HB.al _).up hbk) | (go_at_call 76; (with_reducible refine (CZ.out _).mono ?_); rintro e w2 ⟨rfl, hbk⟩; replace HB := HB.up hbk; replace HR := HR.up hbk; have hr_0 := HR.c0; have hr_1 := HR.c1; have hr_2 := HR.c2; have hr_l := HR.lt; have hr_f0 := HR.f0; have hr_f1 := HR.f1; have hr_f2 := HR.f2) | fail)
  have u0 := fun o => ((HR.put3 (.bool false) (.slice none 0 0) (.slice none 0 0)).al o).c0
  have u1 := fun o => ((HR.put3 (.bool false) (.slice none 0 0) (.slice none 0 0)).al o).c1
  have u2 := fun o => ((HR.put3 (.bool false) (.slice none 0 0) (.slice none 0 0)).al o).c2
  refine bodyPost_ret (v := .tuple #[.agg #[.bool false, .slice none 0 0, .slice none 0 0], .bool false]) (by simp [results, Tryz.results10, go_sem, u0, u1, u2]) rfl ⟨rfl, ?_⟩
  exact (Bel.al (Bel.of (below3 HB (by omega) _ _ _)) _).hid
end Go.Proofs.YtfcamfkimnlfgaaGreatDoor
end

section
/- RatSays: what its calls leave, in one form each. No conditions. -/
open Go.RowKit
set_option maxRecDepth 100000
namespace Go.Proofs.YtfcamfkimnlfgaaGreatDoor
def RQv (W : World) (s : Bool) (r : Rat) (e : Ending) (w' : World) : Prop := ∃ A c A' c', e = .returned (.agg #[.bool s, .slice A (dq r.num.natAbs) c, .slice A' (dq r.den) c']) ∧ Rz w' s A c r.num ∧ Rn w' A' c' r.den ∧ Hid (Below W.heap.size W w')
def QRv (W : World) (s : Bool) (r : Rat) (e : Ending) (w' : World) : Prop := ∃ A c A' c', e = .returned (.agg #[.bool s, .slice A (dl r.num.natAbs) c, .slice A' (dl r.den) c']) ∧ ZA w' s A (dl r.num.natAbs) c r.num ∧ Nm w' A' (dl r.den) c' r.den ∧ Hid (Below W.heap.size W w')
def WdR (W : World) (n : Nat) (e : Ending) (w' : World) : Prop := ∃ A c, e = .returned (.slice A n c) ∧ Hid (Below W.heap.size W w')
def QKv (W : World) (ok sg : Bool) (r : Rat) (u : Bool) (A : Option Addr) (n c : Nat) (A' : Option Addr) (n' c' : Nat) : Prop :=
  ok = true → u = sg ∧ n = dl r.num.natAbs ∧ n' = dl r.den ∧ ZA W sg A (dl r.num.natAbs) c r.num ∧ Nm W A' (dl r.den) c' r.den
def QKw (W : World) (ok sg : Bool) (r : Rat) (u : Bool) (A : Option Addr) (n c : Nat) (A' : Option Addr) (n' c' : Nat) : Prop :=
  ok = true → u = sg ∧ n = dq r.num.natAbs ∧ n' = dq r.den ∧ Rz W sg A c r.num ∧ Rn W A' c' r.den
section
variable {W W' : World} {ok sg u : Bool} {r : Rat} {A A' : Option Addr} {n c n' c' : Nat} {e : Ending} {w' : World}
theorem QKv.up (h : QKv W ok sg r u A n c A' n' c') (hb : Hid (Below W.heap.size W W')) : QKv W' ok sg r u A n c A' n' c' := fun hk => by
  obtain ⟨h1, h2, h3, h4, h5⟩ := h hk
  exact ⟨h1, h2, h3, h4.up hb, h5.up hb⟩
theorem QKv.al (h : QKv W ok sg r u A n c A' n' c') (o : Obj) : QKv (W.alloc o) ok sg r u A n c A' n' c' := fun hk => by
  obtain ⟨h1, h2, h3, h4, h5⟩ := h hk
  exact ⟨h1, h2, h3, h4.al _, h5.al _⟩
theorem QKw.up (h : QKw W ok sg r u A n c A' n' c') (hb : Hid (Below W.heap.size W W')) : QKw W' ok sg r u A n c A' n' c' := fun hk => by
  obtain ⟨h1, h2, h3, h4, h5⟩ := h hk
  exact ⟨h1, h2, h3, h4.up hb, h5.up hb⟩
theorem QKw.al (h : QKw W ok sg r u A n c A' n' c') (o : Obj) : QKw (W.alloc o) ok sg r u A n c A' n' c' := fun hk => by
  obtain ⟨h1, h2, h3, h4, h5⟩ := h hk
  exact ⟨h1, h2, h3, h4.al _, h5.al _⟩
def OfV (W : World) (ok sg : Bool) (r : Rat) (e : Ending) (w' : World) : Prop := ∃ u A n c A' n' c', e = .returned (.tuple #[.agg #[.bool u, .slice A n c, .slice A' n' c'], .bool ok]) ∧ QKv w' ok sg r u A n c A' n' c' ∧ Hid (Below W.heap.size W w')
def OfW (W : World) (ok sg : Bool) (r : Rat) (e : Ending) (w' : World) : Prop := ∃ u A n c A' n' c', e = .returned (.tuple #[.agg #[.bool u, .slice A n c, .slice A' n' c'], .bool ok]) ∧ QKw w' ok sg r u A n c A' n' c' ∧ Hid (Below W.heap.size W w')
theorem ofv_no (h : OfNo W e w') : OfV W false sg r e w' := ⟨false, none, 0, 0, none, 0, 0, h.1, (fun h => by cases h), h.2⟩
theorem ofv_s (h : OfYs W sg r e w') : OfV W true sg r e w' := by
  obtain ⟨A, c, A', c', he, h1, h2, hb⟩ := h
  exact ⟨sg, A, _, c, A', _, c', he, fun _ => ⟨rfl, rfl, rfl, h1, h2⟩, hb⟩
theorem ofv_w (h : OfYw W sg r e w') : OfV W true sg r e w' := by
  obtain ⟨A, c, A', c', he, h1, h2, hb⟩ := h
  exact ⟨sg, A, _, c, A', _, c', he, fun _ => ⟨rfl, rfl, rfl, h1, h2⟩, hb⟩
theorem ofv_y (hs : sg = decide (r.num < 0)) (h : OfYes W r e w') : OfV W true sg r e w' := by
  obtain ⟨A, c, A', c', he, h1, h2, hb⟩ := h
  subst hs
  exact ⟨_, A, _, c, A', _, c', he, fun _ => ⟨rfl, rfl, rfl, h1, h2⟩, hb⟩
theorem ofw_no (h : RQno W e w') : OfW W false sg r e w' := by
  obtain ⟨t, A, n, c, A', n', c', he, hb⟩ := h
  exact ⟨t, A, n, c, A', n', c', he, (fun h => by cases h), hb⟩
theorem ofw_t {v : Int} {d : Nat} (hv : r.num = v) (hd : r.den = d) (h : RQt W sg v d e w') : OfW W true sg r e w' := by
  obtain ⟨A, c, A', c', he, h1, h2, hb⟩ := h
  subst hv; subst hd
  exact ⟨sg, A, _, c, A', _, c', he, fun _ => ⟨rfl, rfl, rfl, h1, h2⟩, hb⟩
theorem rqv_of (h : RQm W sg r.num r.den e w') : RQv W sg r e w' := h
theorem qrv_of (hs : sg = decide (r.num < 0)) (h : QR W r e w') : QRv W sg r e w' := by rw [hs]; exact h
theorem rqv_s (hs : sg = decide (r.num < 0)) (h : RQs W sg r e w') : RQv W sg r e w' := by
  obtain ⟨A, c, A', c', he, h1, h2, hb⟩ := h
  exact ⟨A, c, A', c', he, ⟨h1, hs⟩, h2, hb⟩
end
theorem at_newT3 {W : World} (p : Nat) (u0 u1 u2 : Value) (vs : List Value) (t : TypeId) : At ((((W.setCell ⟨p, 0, none⟩ u0).setCell ⟨p, 1, none⟩ u1).setCell ⟨p, 2, none⟩ u2).alloc (.cells vs.toArray t)) W.heap.size vs := at_size (at_new0 _ vs t) (by simp [World.setCell])
theorem At.three_far {W : World} {p q : Nat} {vs : List Value} (h : At W p vs) (hq : q ≠ p) (x y z : Value) : At (((W.setCell ⟨q, 0, none⟩ x).setCell ⟨q, 1, none⟩ y).setCell ⟨q, 2, none⟩ z) p vs := ((h.far hq x).far hq y).far hq z
theorem Rn.three {W : World} {A : Option Addr} {c m p : Nat} (h : Rn W A c m) (hp : At W p [.bool false, .slice none 0 0, .slice none 0 0]) (b : Bool) (B : Option Addr) (k d : Nat) (B' : Option Addr) (k' d' : Nat) : Rn (((W.setCell ⟨p, 0, none⟩ (.bool b)).setCell ⟨p, 1, none⟩ (.slice B k d)).setCell ⟨p, 2, none⟩ (.slice B' k' d')) A c m := h.q3 hp
theorem Rz.three {W : World} {s : Bool} {z : Int} {A : Option Addr} {c p : Nat} (h : Rz W s A c z) (hp : At W p [.bool false, .slice none 0 0, .slice none 0 0]) (b : Bool) (B : Option Addr) (k d : Nat) (B' : Option Addr) (k' d' : Nat) : Rz (((W.setCell ⟨p, 0, none⟩ (.bool b)).setCell ⟨p, 1, none⟩ (.slice B k d)).setCell ⟨p, 2, none⟩ (.slice B' k' d')) s A c z := ⟨h.1.q3 hp, h.2⟩
end Go.Proofs.YtfcamfkimnlfgaaGreatDoor
end
