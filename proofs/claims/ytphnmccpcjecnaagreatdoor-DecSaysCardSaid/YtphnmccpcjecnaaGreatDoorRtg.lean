/- The document's own numerals: DParse of a text, case by case. Conditions: texts of at most 256 letters. -/
import Derived.Test.YtphnmccpcjecnaaGreatDoorGDsbc14
import Derived.Test.YtphnmccpcjecnaaGreatDoorRtf
open Go.RowKit
set_option maxRecDepth 100000
namespace Go.Proofs.YtphnmccpcjecnaaGreatDoor
/-- What DParse gives back: a numeral; none. -/
def RDY (W : World) (sg : Bool) (v sc : Nat) (e : Ending) (w' : World) : Prop := ∃ A c, e = .returned (.tuple #[.agg #[.bool sg, .slice A (dq v) c, .int .i64 (sc : Int)], .int .i64 0]) ∧ Rn w' A c v ∧ Hid (Below W.heap.size W w')
def RDN (W : World) (er : Int) (e : Ending) (w' : World) : Prop := e = .returned (.tuple #[.agg #[.bool false, .slice none 0 0, .int .i64 0], .int .i64 er]) ∧ Hid (Below W.heap.size W w')
theorem ez_new (W : World) (u v z : Value) (t : TypeId) : Ez (W.alloc (.cells #[u, v, z] t)) W.heap.size :=
  ⟨by simp, by have h := heap_alloc_new W (.cells #[u, v, z] t); unfold World.cell?; rw [show (⟨W.heap.size, 3, none⟩ : Addr).block = W.heap.size from rfl, h]; rfl⟩
section
variable {W : World} {s x : ByteArray} {m v sc : Nat} {sg : Bool}
set_option maxHeartbeats 4000000 in
/-- A minus, no point, no number. -/
theorem rdp_m_n (hs : s.size ≤ 256) (h0 : 0 < s.size) (hb : s[0] = 45) (hx : x = s.extract 1 s.size) (hm : m ≤ x.size) (hpre : ∀ i (h : i < x.size), i < m → x[i] ≠ 46) (hend : ∀ h : m < x.size, x[m] = 46) (hms : m = x.size) (hd : ∀ W', Calls Tryz.prog 47 #[.string (x ++ ⟨#[]⟩)] W' (RpN W')) : Calls Tryz.prog 8 #[.string s] W (RDN W 2) := by
  have HPRE := hide hpre
  have HEND := hide hend
  clear hpre hend
  have CP := hide hd
  clear hd
  have q1 : ((s[0].toNat : Int) == 45) = true := by rw [hb]; rfl
  have q3 : (1 : Int) ≤ (s.size : Int) := by omega
  have hxs : x.size ≤ 256 := by rw [hx, size_list, extract_list, List.length_drop, List.length_take, ← size_list]; omega
  clear hb
  have q2 : (0 : Int) < (s.size : Int) := by omega
  have q4 : ¬ (256 : Int) < (s.size : Int) := by omega
  have HB := Bel.refl W
  go_enter Tryz.func8, Tryz.ntmps8
  go_wp2_with fail
  rw [← hx]
  clear hx
  obtain ⟨W3, hW3⟩ : ∃ X, X = W.alloc (.cells #[.bool false, .slice none 0 0, .int .i64 0] 39) := ⟨_, rfl⟩
  rw [← hW3]
  have HR : At W3 W.heap.size [.bool false, .slice none 0 0, .int .i64 0] := by rw [hW3]; exact at_new0 _ _ _
  replace HB : Bel W W3 := by rw [hW3]; exact HB.al _
  have HZ : Ez W3 W.heap.size := by rw [hW3]; exact ez_new _ _ _ _ _
  clear hW3
  go_loopw [5] (fun iv wr => ∃ i : Nat, i ≤ m ∧ iv = .int .i64 (i : Int) ∧ wr = W3) (fun iv _ => m - (intOf iv).toNat)
  case atStart => exact ⟨0, Nat.zero_le _, rfl, by first | rfl | trivial⟩
  case round =>
    obtain ⟨i, hi, rfl, rfl⟩ := hrel
    by_cases hlt : i < m
    · have his : i < x.size := by omega
      have hL : (i : Int) < (x.size : Int) := by omega
      have hne : ((x[i].toNat : Int) != 46) = true := by
        have h1 := HPRE.out i his hlt
        refine bne_iff_ne.2 fun h2 => h1 (UInt8.toNat_inj.1 ?_)
        have h3 : x[i].toNat = 46 := by omega
        exact h3
      go_wp2_with fail
      go_roundw
      case rel => exact ⟨i + 1, by omega, by go_num, by first | rfl | trivial⟩
      case measure => simp [intOf]; omega
    · obtain rfl : i = m := by omega
      have hL : ¬ (i : Int) < (x.size : Int) := by omega
      go_wp2_with (first | (go_at_call 47; (with_reducible refine (CP.out _).mono ?_); rintro e w1 ⟨B, k0, d, rfl, hbk⟩; replace HR := HR.up hbk; replace HZ := HZ.up hbk; replace HB := HB.up hbk; have hr_0 := HR.c0; have hr_1 := HR.c1; have hr_2 := HR.c2; have hr_l := HR.lt; have hr_f0 := HR.f0; have hr_f1 := HR.f1; have hr_f2 := HR.f2) | fail)
      refine bodyPost_ret (v := .tuple #[.agg #[.bool false, .slice none 0 0, .int .i64 0], .int .i64 2]) (by simp [results, Tryz.results8, go_sem, hr_0, hr_1, hr_2]) rfl ?_
      exact ⟨rfl, below3 HB (Nat.le_refl _) _ _ _⟩
set_option maxHeartbeats 4000000 in
/-- A minus, no point, a number. -/
theorem rdp_m_y (hs : s.size ≤ 256) (h0 : 0 < s.size) (hb : s[0] = 45) (hx : x = s.extract 1 s.size) (hm : m ≤ x.size) (hpre : ∀ i (h : i < x.size), i < m → x[i] ≠ 46) (hend : ∀ h : m < x.size, x[m] = 46) (hms : m = x.size) (hT : x.toList.isEmpty = false) (hq : decide (0 < dq v) = sg) (hd : ∀ W', Calls Tryz.prog 47 #[.string (x ++ ⟨#[]⟩)] W' (RpY W' v)) : Calls Tryz.prog 8 #[.string s] W (RDY W sg v 0) := by
  have HPRE := hide hpre
  have HEND := hide hend
  clear hpre hend
  have CP := hide hd
  clear hd
  have q1 : ((s[0].toNat : Int) == 45) = true := by rw [hb]; rfl
  have q3 : (1 : Int) ≤ (s.size : Int) := by omega
  have hxs : x.size ≤ 256 := by rw [hx, size_list, extract_list, List.length_drop, List.length_take, ← size_list]; omega
  clear hb
  have q2 : (0 : Int) < (s.size : Int) := by omega
  have q4 : ¬ (256 : Int) < (s.size : Int) := by omega
  have HB := Bel.refl W
  go_enter Tryz.func8, Tryz.ntmps8
  go_wp2_with fail
  rw [← hx]
  clear hx
  obtain ⟨W3, hW3⟩ : ∃ X, X = W.alloc (.cells #[.bool false, .slice none 0 0, .int .i64 0] 39) := ⟨_, rfl⟩
  rw [← hW3]
  have HR : At W3 W.heap.size [.bool false, .slice none 0 0, .int .i64 0] := by rw [hW3]; exact at_new0 _ _ _
  replace HB : Bel W W3 := by rw [hW3]; exact HB.al _
  have HZ : Ez W3 W.heap.size := by rw [hW3]; exact ez_new _ _ _ _ _
  clear hW3
  go_loopw [5] (fun iv wr => ∃ i : Nat, i ≤ m ∧ iv = .int .i64 (i : Int) ∧ wr = W3) (fun iv _ => m - (intOf iv).toNat)
  case atStart => exact ⟨0, Nat.zero_le _, rfl, by first | rfl | trivial⟩
  case round =>
    obtain ⟨i, hi, rfl, rfl⟩ := hrel
    by_cases hlt : i < m
    · have his : i < x.size := by omega
      have hL : (i : Int) < (x.size : Int) := by omega
      have hne : ((x[i].toNat : Int) != 46) = true := by
        have h1 := HPRE.out i his hlt
        refine bne_iff_ne.2 fun h2 => h1 (UInt8.toNat_inj.1 ?_)
        have h3 : x[i].toNat = 46 := by omega
        exact h3
      go_wp2_with fail
      go_roundw
      case rel => exact ⟨i + 1, by omega, by go_num, by first | rfl | trivial⟩
      case measure => simp [intOf]; omega
    · obtain rfl : i = m := by omega
      have hL : ¬ (i : Int) < (x.size : Int) := by omega
      go_wp2_with (first | (go_at_call 47; (with_reducible refine (CP.out _).mono ?_); rintro e w1 ⟨B, d, rfl, rn, hbk⟩; replace HR := HR.up hbk; replace HZ := HZ.up hbk; replace HB := HB.up hbk; have hr_0 := HR.c0; have hr_1 := HR.c1; have hr_2 := HR.c2; have hr_l := HR.lt; have hr_f0 := HR.f0; have hr_f1 := HR.f1; have hr_f2 := HR.f2) | fail)
      refine bodyPost_ret (v := .tuple #[.agg #[.bool sg, .slice B (dq v) d, .int .i64 0], .int .i64 0]) (by simp [results, Tryz.results8, go_sem, hr_0, hr_1, hr_2]) rfl ?_
      refine ⟨B, d, rfl, ?_, below3 HB (Nat.le_refl _) _ _ _⟩
      have r0 := RN.setn rn hr_0 (by intro x h; cases h) (.bool sg)
      have r1 := RN.setn r0 ((World.cell?_setCell_other _ _ _ _ (by intro e; cases e)).trans hr_1) (by intro x h; cases h) (.slice B (dq v) d)
      have r2 := RN.setZ r1 ((World.cell?_setCell_other _ _ _ _ (by intro e; cases e)).trans ((World.cell?_setCell_other _ _ _ _ (by intro e; cases e)).trans hr_2)) ((World.cell?_setCell_other _ _ _ _ (by intro e; cases e)).trans ((World.cell?_setCell_other _ _ _ _ (by intro e; cases e)).trans HZ.2)) (.int .i64 0)
      unfold Rn
      refine RN.more r2 ?_
      simp [World.setCell]
set_option maxHeartbeats 4000000 in
/-- A minus, a point, nothing behind it. -/
theorem rdp_m_pe (hs : s.size ≤ 256) (h0 : 0 < s.size) (hb : s[0] = 45) (hx : x = s.extract 1 s.size) (hm : m ≤ x.size) (hpre : ∀ i (h : i < x.size), i < m → x[i] ≠ 46) (hend : ∀ h : m < x.size, x[m] = 46) (hms : m < x.size) (hU : (x.extract (m + 1) x.size).toList.isEmpty = true) : Calls Tryz.prog 8 #[.string s] W (RDN W 2) := by
  have HPRE := hide hpre
  have HEND := hide hend
  clear hpre hend
  have q1 : ((s[0].toNat : Int) == 45) = true := by rw [hb]; rfl
  have q3 : (1 : Int) ≤ (s.size : Int) := by omega
  have hxs : x.size ≤ 256 := by rw [hx, size_list, extract_list, List.length_drop, List.length_take, ← size_list]; omega
  clear hb
  have q2 : (0 : Int) < (s.size : Int) := by omega
  have q4 : ¬ (256 : Int) < (s.size : Int) := by omega
  have HB := Bel.refl W
  go_enter Tryz.func8, Tryz.ntmps8
  go_wp2_with fail
  rw [← hx]
  clear hx
  obtain ⟨W3, hW3⟩ : ∃ X, X = W.alloc (.cells #[.bool false, .slice none 0 0, .int .i64 0] 39) := ⟨_, rfl⟩
  rw [← hW3]
  have HR : At W3 W.heap.size [.bool false, .slice none 0 0, .int .i64 0] := by rw [hW3]; exact at_new0 _ _ _
  replace HB : Bel W W3 := by rw [hW3]; exact HB.al _
  have HZ : Ez W3 W.heap.size := by rw [hW3]; exact ez_new _ _ _ _ _
  clear hW3
  go_loopw [5] (fun iv wr => ∃ i : Nat, i ≤ m ∧ iv = .int .i64 (i : Int) ∧ wr = W3) (fun iv _ => m - (intOf iv).toNat)
  case atStart => exact ⟨0, Nat.zero_le _, rfl, by first | rfl | trivial⟩
  case round =>
    obtain ⟨i, hi, rfl, rfl⟩ := hrel
    by_cases hlt : i < m
    · have his : i < x.size := by omega
      have hL : (i : Int) < (x.size : Int) := by omega
      have hne : ((x[i].toNat : Int) != 46) = true := by
        have h1 := HPRE.out i his hlt
        refine bne_iff_ne.2 fun h2 => h1 (UInt8.toNat_inj.1 ?_)
        have h3 : x[i].toNat = 46 := by omega
        exact h3
      go_wp2_with fail
      go_roundw
      case rel => exact ⟨i + 1, by omega, by go_num, by first | rfl | trivial⟩
      case measure => simp [intOf]; omega
    · obtain rfl : i = m := by omega
      have hL : (i : Int) < (x.size : Int) := by omega
      have heq : ((x[i].toNat : Int) != 46) = false := by
        rw [HEND.out hms]; rfl
      have hr_0 := HR.c0
      have hr_1 := HR.c1
      have hr_2 := HR.c2
      have hr_l := HR.lt
      have hr_f0 := HR.f0
      have hr_f1 := HR.f1
      have hr_f2 := HR.f2
      go_wp2_with fail
      refine bodyPost_ret (v := .tuple #[.agg #[.bool false, .slice none 0 0, .int .i64 0], .int .i64 2]) (by simp [results, Tryz.results8, go_sem, hr_0, hr_1, hr_2]) rfl ?_
      exact ⟨rfl, below3 HB (Nat.le_refl _) _ _ _⟩
set_option maxHeartbeats 4000000 in
/-- A minus, a point, too many digits behind it. -/
theorem rdp_m_pl (hs : s.size ≤ 256) (h0 : 0 < s.size) (hb : s[0] = 45) (hx : x = s.extract 1 s.size) (hm : m ≤ x.size) (hpre : ∀ i (h : i < x.size), i < m → x[i] ≠ 46) (hend : ∀ h : m < x.size, x[m] = 46) (hms : m < x.size) (hU : (x.extract (m + 1) x.size).toList.isEmpty = false) (hU2 : 60 < (x.extract (m + 1) x.size).size) : Calls Tryz.prog 8 #[.string s] W (RDN W 2) := by
  have HPRE := hide hpre
  have HEND := hide hend
  clear hpre hend
  have h60 : (60 : Int) < ((x.size - (m + 1) : Nat) : Int) := by rw [size_list, extract_list, List.length_drop, List.length_take, ← size_list] at hU2; omega
  have h61 : decide ((60 : Int) < ((x.size - (m + 1) : Nat) : Int)) = true := decide_eq_true h60
  clear hU2
  have q1 : ((s[0].toNat : Int) == 45) = true := by rw [hb]; rfl
  have q3 : (1 : Int) ≤ (s.size : Int) := by omega
  have hxs : x.size ≤ 256 := by rw [hx, size_list, extract_list, List.length_drop, List.length_take, ← size_list]; omega
  clear hb
  have q2 : (0 : Int) < (s.size : Int) := by omega
  have q4 : ¬ (256 : Int) < (s.size : Int) := by omega
  have HB := Bel.refl W
  go_enter Tryz.func8, Tryz.ntmps8
  go_wp2_with fail
  rw [← hx]
  clear hx
  obtain ⟨W3, hW3⟩ : ∃ X, X = W.alloc (.cells #[.bool false, .slice none 0 0, .int .i64 0] 39) := ⟨_, rfl⟩
  rw [← hW3]
  have HR : At W3 W.heap.size [.bool false, .slice none 0 0, .int .i64 0] := by rw [hW3]; exact at_new0 _ _ _
  replace HB : Bel W W3 := by rw [hW3]; exact HB.al _
  have HZ : Ez W3 W.heap.size := by rw [hW3]; exact ez_new _ _ _ _ _
  clear hW3
  go_loopw [5] (fun iv wr => ∃ i : Nat, i ≤ m ∧ iv = .int .i64 (i : Int) ∧ wr = W3) (fun iv _ => m - (intOf iv).toNat)
  case atStart => exact ⟨0, Nat.zero_le _, rfl, by first | rfl | trivial⟩
  case round =>
    obtain ⟨i, hi, rfl, rfl⟩ := hrel
    by_cases hlt : i < m
    · have his : i < x.size := by omega
      have hL : (i : Int) < (x.size : Int) := by omega
      have hne : ((x[i].toNat : Int) != 46) = true := by
        have h1 := HPRE.out i his hlt
        refine bne_iff_ne.2 fun h2 => h1 (UInt8.toNat_inj.1 ?_)
        have h3 : x[i].toNat = 46 := by omega
        exact h3
      go_wp2_with fail
      go_roundw
      case rel => exact ⟨i + 1, by omega, by go_num, by first | rfl | trivial⟩
      case measure => simp [intOf]; omega
    · obtain rfl : i = m := by omega
      have hL : (i : Int) < (x.size : Int) := by omega
      have heq : ((x[i].toNat : Int) != 46) = false := by
        rw [HEND.out hms]; rfl
      have hr_0 := HR.c0
      have hr_1 := HR.c1
      have hr_2 := HR.c2
      have hr_l := HR.lt
      have hr_f0 := HR.f0
      have hr_f1 := HR.f1
      have hr_f2 := HR.f2
      go_wp2_with fail
      refine bodyPost_ret (v := .tuple #[.agg #[.bool false, .slice none 0 0, .int .i64 0], .int .i64 2]) (by simp [results, Tryz.results8, go_sem, hr_0, hr_1, hr_2]) rfl ?_
      exact ⟨rfl, below3 HB (Nat.le_refl _) _ _ _⟩
set_option maxHeartbeats 4000000 in
/-- A minus, a point, no number. -/
theorem rdp_m_pn (hs : s.size ≤ 256) (h0 : 0 < s.size) (hb : s[0] = 45) (hx : x = s.extract 1 s.size) (hm : m ≤ x.size) (hpre : ∀ i (h : i < x.size), i < m → x[i] ≠ 46) (hend : ∀ h : m < x.size, x[m] = 46) (hms : m < x.size) (hU : (x.extract (m + 1) x.size).toList.isEmpty = false) (hU2 : (x.extract (m + 1) x.size).size ≤ 60) (hd : ∀ W', Calls Tryz.prog 47 #[.string (x.extract 0 m ++ x.extract (m + 1) x.size)] W' (RpN W')) : Calls Tryz.prog 8 #[.string s] W (RDN W 2) := by
  have HPRE := hide hpre
  have HEND := hide hend
  clear hpre hend
  have CP := hide hd
  clear hd
  have h60 : ¬ (60 : Int) < ((x.size - (m + 1) : Nat) : Int) := by rw [size_list, extract_list, List.length_drop, List.length_take, ← size_list] at hU2; omega
  have h61 : decide ((60 : Int) < ((x.size - (m + 1) : Nat) : Int)) = false := decide_eq_false h60
  clear hU2
  have q1 : ((s[0].toNat : Int) == 45) = true := by rw [hb]; rfl
  have q3 : (1 : Int) ≤ (s.size : Int) := by omega
  have hxs : x.size ≤ 256 := by rw [hx, size_list, extract_list, List.length_drop, List.length_take, ← size_list]; omega
  clear hb
  have q2 : (0 : Int) < (s.size : Int) := by omega
  have q4 : ¬ (256 : Int) < (s.size : Int) := by omega
  have HB := Bel.refl W
  go_enter Tryz.func8, Tryz.ntmps8
  go_wp2_with fail
  rw [← hx]
  clear hx
  obtain ⟨W3, hW3⟩ : ∃ X, X = W.alloc (.cells #[.bool false, .slice none 0 0, .int .i64 0] 39) := ⟨_, rfl⟩
  rw [← hW3]
  have HR : At W3 W.heap.size [.bool false, .slice none 0 0, .int .i64 0] := by rw [hW3]; exact at_new0 _ _ _
  replace HB : Bel W W3 := by rw [hW3]; exact HB.al _
  have HZ : Ez W3 W.heap.size := by rw [hW3]; exact ez_new _ _ _ _ _
  clear hW3
  go_loopw [5] (fun iv wr => ∃ i : Nat, i ≤ m ∧ iv = .int .i64 (i : Int) ∧ wr = W3) (fun iv _ => m - (intOf iv).toNat)
  case atStart => exact ⟨0, Nat.zero_le _, rfl, by first | rfl | trivial⟩
  case round =>
    obtain ⟨i, hi, rfl, rfl⟩ := hrel
    by_cases hlt : i < m
    · have his : i < x.size := by omega
      have hL : (i : Int) < (x.size : Int) := by omega
      have hne : ((x[i].toNat : Int) != 46) = true := by
        have h1 := HPRE.out i his hlt
        refine bne_iff_ne.2 fun h2 => h1 (UInt8.toNat_inj.1 ?_)
        have h3 : x[i].toNat = 46 := by omega
        exact h3
      go_wp2_with fail
      go_roundw
      case rel => exact ⟨i + 1, by omega, by go_num, by first | rfl | trivial⟩
      case measure => simp [intOf]; omega
    · obtain rfl : i = m := by omega
      have hL : (i : Int) < (x.size : Int) := by omega
      have heq : ((x[i].toNat : Int) != 46) = false := by
        rw [HEND.out hms]; rfl
      go_wp2_with (first | (go_at_call 47; (with_reducible refine (CP.out _).mono ?_); rintro e w1 ⟨B, k0, d, rfl, hbk⟩; replace HR := HR.up hbk; replace HZ := HZ.up hbk; replace HB := HB.up hbk; have hr_0 := HR.c0; have hr_1 := HR.c1; have hr_2 := HR.c2; have hr_l := HR.lt; have hr_f0 := HR.f0; have hr_f1 := HR.f1; have hr_f2 := HR.f2) | fail)
      refine bodyPost_ret (v := .tuple #[.agg #[.bool false, .slice none 0 0, .int .i64 0], .int .i64 2]) (by simp [results, Tryz.results8, go_sem, hr_0, hr_1, hr_2]) rfl ?_
      exact ⟨rfl, below3 HB (Nat.le_refl _) _ _ _⟩
set_option maxHeartbeats 4000000 in
/-- A minus, a point, nothing ahead of it. -/
theorem rdp_m_pa (hs : s.size ≤ 256) (h0 : 0 < s.size) (hb : s[0] = 45) (hx : x = s.extract 1 s.size) (hm : m ≤ x.size) (hpre : ∀ i (h : i < x.size), i < m → x[i] ≠ 46) (hend : ∀ h : m < x.size, x[m] = 46) (hms : m < x.size) (hU : (x.extract (m + 1) x.size).toList.isEmpty = false) (hU2 : (x.extract (m + 1) x.size).size ≤ 60) (hT : (x.extract 0 m).toList.isEmpty = true) (hd : ∀ W', Calls Tryz.prog 47 #[.string (x.extract 0 m ++ x.extract (m + 1) x.size)] W' (RpY W' v)) : Calls Tryz.prog 8 #[.string s] W (RDN W 2) := by
  have HPRE := hide hpre
  have HEND := hide hend
  clear hpre hend
  have CP := hide hd
  clear hd
  have h60 : ¬ (60 : Int) < ((x.size - (m + 1) : Nat) : Int) := by rw [size_list, extract_list, List.length_drop, List.length_take, ← size_list] at hU2; omega
  have h61 : decide ((60 : Int) < ((x.size - (m + 1) : Nat) : Int)) = false := decide_eq_false h60
  clear hU2
  have q1 : ((s[0].toNat : Int) == 45) = true := by rw [hb]; rfl
  have q3 : (1 : Int) ≤ (s.size : Int) := by omega
  have hxs : x.size ≤ 256 := by rw [hx, size_list, extract_list, List.length_drop, List.length_take, ← size_list]; omega
  clear hb
  have q2 : (0 : Int) < (s.size : Int) := by omega
  have q4 : ¬ (256 : Int) < (s.size : Int) := by omega
  have HB := Bel.refl W
  go_enter Tryz.func8, Tryz.ntmps8
  go_wp2_with fail
  rw [← hx]
  clear hx
  obtain ⟨W3, hW3⟩ : ∃ X, X = W.alloc (.cells #[.bool false, .slice none 0 0, .int .i64 0] 39) := ⟨_, rfl⟩
  rw [← hW3]
  have HR : At W3 W.heap.size [.bool false, .slice none 0 0, .int .i64 0] := by rw [hW3]; exact at_new0 _ _ _
  replace HB : Bel W W3 := by rw [hW3]; exact HB.al _
  have HZ : Ez W3 W.heap.size := by rw [hW3]; exact ez_new _ _ _ _ _
  clear hW3
  go_loopw [5] (fun iv wr => ∃ i : Nat, i ≤ m ∧ iv = .int .i64 (i : Int) ∧ wr = W3) (fun iv _ => m - (intOf iv).toNat)
  case atStart => exact ⟨0, Nat.zero_le _, rfl, by first | rfl | trivial⟩
  case round =>
    obtain ⟨i, hi, rfl, rfl⟩ := hrel
    by_cases hlt : i < m
    · have his : i < x.size := by omega
      have hL : (i : Int) < (x.size : Int) := by omega
      have hne : ((x[i].toNat : Int) != 46) = true := by
        have h1 := HPRE.out i his hlt
        refine bne_iff_ne.2 fun h2 => h1 (UInt8.toNat_inj.1 ?_)
        have h3 : x[i].toNat = 46 := by omega
        exact h3
      go_wp2_with fail
      go_roundw
      case rel => exact ⟨i + 1, by omega, by go_num, by first | rfl | trivial⟩
      case measure => simp [intOf]; omega
    · obtain rfl : i = m := by omega
      have hL : (i : Int) < (x.size : Int) := by omega
      have heq : ((x[i].toNat : Int) != 46) = false := by
        rw [HEND.out hms]; rfl
      go_wp2_with (first | (go_at_call 47; (with_reducible refine (CP.out _).mono ?_); rintro e w1 ⟨B, d, rfl, rn, hbk⟩; replace HR := HR.up hbk; replace HZ := HZ.up hbk; replace HB := HB.up hbk; have hr_0 := HR.c0; have hr_1 := HR.c1; have hr_2 := HR.c2; have hr_l := HR.lt; have hr_f0 := HR.f0; have hr_f1 := HR.f1; have hr_f2 := HR.f2) | fail)
      refine bodyPost_ret (v := .tuple #[.agg #[.bool false, .slice none 0 0, .int .i64 0], .int .i64 2]) (by simp [results, Tryz.results8, go_sem, hr_0, hr_1, hr_2]) rfl ?_
      exact ⟨rfl, below3 HB (Nat.le_refl _) _ _ _⟩
set_option maxHeartbeats 4000000 in
/-- A minus, a point, a number. -/
theorem rdp_m_py (hs : s.size ≤ 256) (h0 : 0 < s.size) (hb : s[0] = 45) (hx : x = s.extract 1 s.size) (hm : m ≤ x.size) (hpre : ∀ i (h : i < x.size), i < m → x[i] ≠ 46) (hend : ∀ h : m < x.size, x[m] = 46) (hms : m < x.size) (hU : (x.extract (m + 1) x.size).toList.isEmpty = false) (hU2 : (x.extract (m + 1) x.size).size ≤ 60) (hT : (x.extract 0 m).toList.isEmpty = false) (hq : decide (0 < dq v) = sg) (hd : ∀ W', Calls Tryz.prog 47 #[.string (x.extract 0 m ++ x.extract (m + 1) x.size)] W' (RpY W' v)) : Calls Tryz.prog 8 #[.string s] W (RDY W sg v (x.size - (m + 1))) := by
  have HPRE := hide hpre
  have HEND := hide hend
  clear hpre hend
  have CP := hide hd
  clear hd
  have h60 : ¬ (60 : Int) < ((x.size - (m + 1) : Nat) : Int) := by rw [size_list, extract_list, List.length_drop, List.length_take, ← size_list] at hU2; omega
  have h61 : decide ((60 : Int) < ((x.size - (m + 1) : Nat) : Int)) = false := decide_eq_false h60
  clear hU2
  have q1 : ((s[0].toNat : Int) == 45) = true := by rw [hb]; rfl
  have q3 : (1 : Int) ≤ (s.size : Int) := by omega
  have hxs : x.size ≤ 256 := by rw [hx, size_list, extract_list, List.length_drop, List.length_take, ← size_list]; omega
  clear hb
  have q2 : (0 : Int) < (s.size : Int) := by omega
  have q4 : ¬ (256 : Int) < (s.size : Int) := by omega
  have HB := Bel.refl W
  go_enter Tryz.func8, Tryz.ntmps8
  go_wp2_with fail
  rw [← hx]
  clear hx
  obtain ⟨W3, hW3⟩ : ∃ X, X = W.alloc (.cells #[.bool false, .slice none 0 0, .int .i64 0] 39) := ⟨_, rfl⟩
  rw [← hW3]
  have HR : At W3 W.heap.size [.bool false, .slice none 0 0, .int .i64 0] := by rw [hW3]; exact at_new0 _ _ _
  replace HB : Bel W W3 := by rw [hW3]; exact HB.al _
  have HZ : Ez W3 W.heap.size := by rw [hW3]; exact ez_new _ _ _ _ _
  clear hW3
  go_loopw [5] (fun iv wr => ∃ i : Nat, i ≤ m ∧ iv = .int .i64 (i : Int) ∧ wr = W3) (fun iv _ => m - (intOf iv).toNat)
  case atStart => exact ⟨0, Nat.zero_le _, rfl, by first | rfl | trivial⟩
  case round =>
    obtain ⟨i, hi, rfl, rfl⟩ := hrel
    by_cases hlt : i < m
    · have his : i < x.size := by omega
      have hL : (i : Int) < (x.size : Int) := by omega
      have hne : ((x[i].toNat : Int) != 46) = true := by
        have h1 := HPRE.out i his hlt
        refine bne_iff_ne.2 fun h2 => h1 (UInt8.toNat_inj.1 ?_)
        have h3 : x[i].toNat = 46 := by omega
        exact h3
      go_wp2_with fail
      go_roundw
      case rel => exact ⟨i + 1, by omega, by go_num, by first | rfl | trivial⟩
      case measure => simp [intOf]; omega
    · obtain rfl : i = m := by omega
      have hL : (i : Int) < (x.size : Int) := by omega
      have heq : ((x[i].toNat : Int) != 46) = false := by
        rw [HEND.out hms]; rfl
      go_wp2_with (first | (go_at_call 47; (with_reducible refine (CP.out _).mono ?_); rintro e w1 ⟨B, d, rfl, rn, hbk⟩; replace HR := HR.up hbk; replace HZ := HZ.up hbk; replace HB := HB.up hbk; have hr_0 := HR.c0; have hr_1 := HR.c1; have hr_2 := HR.c2; have hr_l := HR.lt; have hr_f0 := HR.f0; have hr_f1 := HR.f1; have hr_f2 := HR.f2) | fail)
      refine bodyPost_ret (v := .tuple #[.agg #[.bool sg, .slice B (dq v) d, .int .i64 ((x.size - (i + 1) : Nat) : Int)], .int .i64 0]) (by simp [results, Tryz.results8, go_sem, hr_0, hr_1, hr_2]) rfl ?_
      refine ⟨B, d, rfl, ?_, below3 HB (Nat.le_refl _) _ _ _⟩
      have r0 := RN.setn rn hr_0 (by intro x h; cases h) (.bool sg)
      have r1 := RN.setn r0 ((World.cell?_setCell_other _ _ _ _ (by intro e; cases e)).trans hr_1) (by intro x h; cases h) (.slice B (dq v) d)
      have r2 := RN.setZ r1 ((World.cell?_setCell_other _ _ _ _ (by intro e; cases e)).trans ((World.cell?_setCell_other _ _ _ _ (by intro e; cases e)).trans hr_2)) ((World.cell?_setCell_other _ _ _ _ (by intro e; cases e)).trans ((World.cell?_setCell_other _ _ _ _ (by intro e; cases e)).trans HZ.2)) (.int .i64 ((x.size - (i + 1) : Nat) : Int))
      unfold Rn
      refine RN.more r2 ?_
      simp [World.setCell]
set_option maxHeartbeats 4000000 in
/-- No minus, no point, no number. -/
theorem rdp_p_n (hs : s.size ≤ 256) (h0 : 0 < s.size) (hb : s[0] ≠ 45) (hx : x = s) (hm : m ≤ x.size) (hpre : ∀ i (h : i < x.size), i < m → x[i] ≠ 46) (hend : ∀ h : m < x.size, x[m] = 46) (hms : m = x.size) (hd : ∀ W', Calls Tryz.prog 47 #[.string (x ++ ⟨#[]⟩)] W' (RpN W')) : Calls Tryz.prog 8 #[.string s] W (RDN W 2) := by
  have HPRE := hide hpre
  have HEND := hide hend
  clear hpre hend
  have CP := hide hd
  clear hd
  have q1 : ((s[0].toNat : Int) == 45) = false := by
    rw [beq_eq_false_iff_ne]
    intro e
    exact hb (UInt8.toNat_inj.1 (by simpa using (show s[0].toNat = 45 by omega)))
  subst hx
  clear hb
  have hxs : x.size ≤ 256 := hs
  have q2 : (0 : Int) < (x.size : Int) := by omega
  have q4 : ¬ (256 : Int) < (x.size : Int) := by omega
  have HB := Bel.refl W
  go_enter Tryz.func8, Tryz.ntmps8
  go_wp2_with fail
  obtain ⟨W3, hW3⟩ : ∃ X, X = W.alloc (.cells #[.bool false, .slice none 0 0, .int .i64 0] 39) := ⟨_, rfl⟩
  rw [← hW3]
  have HR : At W3 W.heap.size [.bool false, .slice none 0 0, .int .i64 0] := by rw [hW3]; exact at_new0 _ _ _
  replace HB : Bel W W3 := by rw [hW3]; exact HB.al _
  have HZ : Ez W3 W.heap.size := by rw [hW3]; exact ez_new _ _ _ _ _
  clear hW3
  go_loopw [5] (fun iv wr => ∃ i : Nat, i ≤ m ∧ iv = .int .i64 (i : Int) ∧ wr = W3) (fun iv _ => m - (intOf iv).toNat)
  case atStart => exact ⟨0, Nat.zero_le _, rfl, by first | rfl | trivial⟩
  case round =>
    obtain ⟨i, hi, rfl, rfl⟩ := hrel
    by_cases hlt : i < m
    · have his : i < x.size := by omega
      have hL : (i : Int) < (x.size : Int) := by omega
      have hne : ((x[i].toNat : Int) != 46) = true := by
        have h1 := HPRE.out i his hlt
        refine bne_iff_ne.2 fun h2 => h1 (UInt8.toNat_inj.1 ?_)
        have h3 : x[i].toNat = 46 := by omega
        exact h3
      go_wp2_with fail
      go_roundw
      case rel => exact ⟨i + 1, by omega, by go_num, by first | rfl | trivial⟩
      case measure => simp [intOf]; omega
    · obtain rfl : i = m := by omega
      have hL : ¬ (i : Int) < (x.size : Int) := by omega
      go_wp2_with (first | (go_at_call 47; (with_reducible refine (CP.out _).mono ?_); rintro e w1 ⟨B, k0, d, rfl, hbk⟩; replace HR := HR.up hbk; replace HZ := HZ.up hbk; replace HB := HB.up hbk; have hr_0 := HR.c0; have hr_1 := HR.c1; have hr_2 := HR.c2; have hr_l := HR.lt; have hr_f0 := HR.f0; have hr_f1 := HR.f1; have hr_f2 := HR.f2) | fail)
      refine bodyPost_ret (v := .tuple #[.agg #[.bool false, .slice none 0 0, .int .i64 0], .int .i64 2]) (by simp [results, Tryz.results8, go_sem, hr_0, hr_1, hr_2]) rfl ?_
      exact ⟨rfl, below3 HB (Nat.le_refl _) _ _ _⟩
set_option maxHeartbeats 4000000 in
/-- No minus, no point, a number. -/
theorem rdp_p_y (hs : s.size ≤ 256) (h0 : 0 < s.size) (hb : s[0] ≠ 45) (hx : x = s) (hm : m ≤ x.size) (hpre : ∀ i (h : i < x.size), i < m → x[i] ≠ 46) (hend : ∀ h : m < x.size, x[m] = 46) (hms : m = x.size) (hT : x.toList.isEmpty = false) (hd : ∀ W', Calls Tryz.prog 47 #[.string (x ++ ⟨#[]⟩)] W' (RpY W' v)) : Calls Tryz.prog 8 #[.string s] W (RDY W false v 0) := by
  have HPRE := hide hpre
  have HEND := hide hend
  clear hpre hend
  have CP := hide hd
  clear hd
  have q1 : ((s[0].toNat : Int) == 45) = false := by
    rw [beq_eq_false_iff_ne]
    intro e
    exact hb (UInt8.toNat_inj.1 (by simpa using (show s[0].toNat = 45 by omega)))
  subst hx
  clear hb
  have hxs : x.size ≤ 256 := hs
  have q2 : (0 : Int) < (x.size : Int) := by omega
  have q4 : ¬ (256 : Int) < (x.size : Int) := by omega
  have HB := Bel.refl W
  go_enter Tryz.func8, Tryz.ntmps8
  go_wp2_with fail
  obtain ⟨W3, hW3⟩ : ∃ X, X = W.alloc (.cells #[.bool false, .slice none 0 0, .int .i64 0] 39) := ⟨_, rfl⟩
  rw [← hW3]
  have HR : At W3 W.heap.size [.bool false, .slice none 0 0, .int .i64 0] := by rw [hW3]; exact at_new0 _ _ _
  replace HB : Bel W W3 := by rw [hW3]; exact HB.al _
  have HZ : Ez W3 W.heap.size := by rw [hW3]; exact ez_new _ _ _ _ _
  clear hW3
  go_loopw [5] (fun iv wr => ∃ i : Nat, i ≤ m ∧ iv = .int .i64 (i : Int) ∧ wr = W3) (fun iv _ => m - (intOf iv).toNat)
  case atStart => exact ⟨0, Nat.zero_le _, rfl, by first | rfl | trivial⟩
  case round =>
    obtain ⟨i, hi, rfl, rfl⟩ := hrel
    by_cases hlt : i < m
    · have his : i < x.size := by omega
      have hL : (i : Int) < (x.size : Int) := by omega
      have hne : ((x[i].toNat : Int) != 46) = true := by
        have h1 := HPRE.out i his hlt
        refine bne_iff_ne.2 fun h2 => h1 (UInt8.toNat_inj.1 ?_)
        have h3 : x[i].toNat = 46 := by omega
        exact h3
      go_wp2_with fail
      go_roundw
      case rel => exact ⟨i + 1, by omega, by go_num, by first | rfl | trivial⟩
      case measure => simp [intOf]; omega
    · obtain rfl : i = m := by omega
      have hL : ¬ (i : Int) < (x.size : Int) := by omega
      go_wp2_with (first | (go_at_call 47; (with_reducible refine (CP.out _).mono ?_); rintro e w1 ⟨B, d, rfl, rn, hbk⟩; replace HR := HR.up hbk; replace HZ := HZ.up hbk; replace HB := HB.up hbk; have hr_0 := HR.c0; have hr_1 := HR.c1; have hr_2 := HR.c2; have hr_l := HR.lt; have hr_f0 := HR.f0; have hr_f1 := HR.f1; have hr_f2 := HR.f2) | fail)
      refine bodyPost_ret (v := .tuple #[.agg #[.bool false, .slice B (dq v) d, .int .i64 0], .int .i64 0]) (by simp [results, Tryz.results8, go_sem, hr_0, hr_1, hr_2]) rfl ?_
      refine ⟨B, d, rfl, ?_, below3 HB (Nat.le_refl _) _ _ _⟩
      have r0 := RN.setn rn hr_0 (by intro x h; cases h) (.bool false)
      have r1 := RN.setn r0 ((World.cell?_setCell_other _ _ _ _ (by intro e; cases e)).trans hr_1) (by intro x h; cases h) (.slice B (dq v) d)
      have r2 := RN.setZ r1 ((World.cell?_setCell_other _ _ _ _ (by intro e; cases e)).trans ((World.cell?_setCell_other _ _ _ _ (by intro e; cases e)).trans hr_2)) ((World.cell?_setCell_other _ _ _ _ (by intro e; cases e)).trans ((World.cell?_setCell_other _ _ _ _ (by intro e; cases e)).trans HZ.2)) (.int .i64 0)
      unfold Rn
      refine RN.more r2 ?_
      simp [World.setCell]
set_option maxHeartbeats 4000000 in
/-- No minus, a point, nothing behind it. -/
theorem rdp_p_pe (hs : s.size ≤ 256) (h0 : 0 < s.size) (hb : s[0] ≠ 45) (hx : x = s) (hm : m ≤ x.size) (hpre : ∀ i (h : i < x.size), i < m → x[i] ≠ 46) (hend : ∀ h : m < x.size, x[m] = 46) (hms : m < x.size) (hU : (x.extract (m + 1) x.size).toList.isEmpty = true) : Calls Tryz.prog 8 #[.string s] W (RDN W 2) := by
  have HPRE := hide hpre
  have HEND := hide hend
  clear hpre hend
  have q1 : ((s[0].toNat : Int) == 45) = false := by
    rw [beq_eq_false_iff_ne]
    intro e
    exact hb (UInt8.toNat_inj.1 (by simpa using (show s[0].toNat = 45 by omega)))
  subst hx
  clear hb
  have hxs : x.size ≤ 256 := hs
  have q2 : (0 : Int) < (x.size : Int) := by omega
  have q4 : ¬ (256 : Int) < (x.size : Int) := by omega
  have HB := Bel.refl W
  go_enter Tryz.func8, Tryz.ntmps8
  go_wp2_with fail
  obtain ⟨W3, hW3⟩ : ∃ X, X = W.alloc (.cells #[.bool false, .slice none 0 0, .int .i64 0] 39) := ⟨_, rfl⟩
  rw [← hW3]
  have HR : At W3 W.heap.size [.bool false, .slice none 0 0, .int .i64 0] := by rw [hW3]; exact at_new0 _ _ _
  replace HB : Bel W W3 := by rw [hW3]; exact HB.al _
  have HZ : Ez W3 W.heap.size := by rw [hW3]; exact ez_new _ _ _ _ _
  clear hW3
  go_loopw [5] (fun iv wr => ∃ i : Nat, i ≤ m ∧ iv = .int .i64 (i : Int) ∧ wr = W3) (fun iv _ => m - (intOf iv).toNat)
  case atStart => exact ⟨0, Nat.zero_le _, rfl, by first | rfl | trivial⟩
  case round =>
    obtain ⟨i, hi, rfl, rfl⟩ := hrel
    by_cases hlt : i < m
    · have his : i < x.size := by omega
      have hL : (i : Int) < (x.size : Int) := by omega
      have hne : ((x[i].toNat : Int) != 46) = true := by
        have h1 := HPRE.out i his hlt
        refine bne_iff_ne.2 fun h2 => h1 (UInt8.toNat_inj.1 ?_)
        have h3 : x[i].toNat = 46 := by omega
        exact h3
      go_wp2_with fail
      go_roundw
      case rel => exact ⟨i + 1, by omega, by go_num, by first | rfl | trivial⟩
      case measure => simp [intOf]; omega
    · obtain rfl : i = m := by omega
      have hL : (i : Int) < (x.size : Int) := by omega
      have heq : ((x[i].toNat : Int) != 46) = false := by
        rw [HEND.out hms]; rfl
      have hr_0 := HR.c0
      have hr_1 := HR.c1
      have hr_2 := HR.c2
      have hr_l := HR.lt
      have hr_f0 := HR.f0
      have hr_f1 := HR.f1
      have hr_f2 := HR.f2
      go_wp2_with fail
      refine bodyPost_ret (v := .tuple #[.agg #[.bool false, .slice none 0 0, .int .i64 0], .int .i64 2]) (by simp [results, Tryz.results8, go_sem, hr_0, hr_1, hr_2]) rfl ?_
      exact ⟨rfl, below3 HB (Nat.le_refl _) _ _ _⟩
set_option maxHeartbeats 4000000 in
/-- No minus, a point, too many digits behind it. -/
theorem rdp_p_pl (hs : s.size ≤ 256) (h0 : 0 < s.size) (hb : s[0] ≠ 45) (hx : x = s) (hm : m ≤ x.size) (hpre : ∀ i (h : i < x.size), i < m → x[i] ≠ 46) (hend : ∀ h : m < x.size, x[m] = 46) (hms : m < x.size) (hU : (x.extract (m + 1) x.size).toList.isEmpty = false) (hU2 : 60 < (x.extract (m + 1) x.size).size) : Calls Tryz.prog 8 #[.string s] W (RDN W 2) := by
  have HPRE := hide hpre
  have HEND := hide hend
  clear hpre hend
  have h60 : (60 : Int) < ((x.size - (m + 1) : Nat) : Int) := by rw [size_list, extract_list, List.length_drop, List.length_take, ← size_list] at hU2; omega
  have h61 : decide ((60 : Int) < ((x.size - (m + 1) : Nat) : Int)) = true := decide_eq_true h60
  clear hU2
  have q1 : ((s[0].toNat : Int) == 45) = false := by
    rw [beq_eq_false_iff_ne]
    intro e
    exact hb (UInt8.toNat_inj.1 (by simpa using (show s[0].toNat = 45 by omega)))
  subst hx
  clear hb
  have hxs : x.size ≤ 256 := hs
  have q2 : (0 : Int) < (x.size : Int) := by omega
  have q4 : ¬ (256 : Int) < (x.size : Int) := by omega
  have HB := Bel.refl W
  go_enter Tryz.func8, Tryz.ntmps8
  go_wp2_with fail
  obtain ⟨W3, hW3⟩ : ∃ X, X = W.alloc (.cells #[.bool false, .slice none 0 0, .int .i64 0] 39) := ⟨_, rfl⟩
  rw [← hW3]
  have HR : At W3 W.heap.size [.bool false, .slice none 0 0, .int .i64 0] := by rw [hW3]; exact at_new0 _ _ _
  replace HB : Bel W W3 := by rw [hW3]; exact HB.al _
  have HZ : Ez W3 W.heap.size := by rw [hW3]; exact ez_new _ _ _ _ _
  clear hW3
  go_loopw [5] (fun iv wr => ∃ i : Nat, i ≤ m ∧ iv = .int .i64 (i : Int) ∧ wr = W3) (fun iv _ => m - (intOf iv).toNat)
  case atStart => exact ⟨0, Nat.zero_le _, rfl, by first | rfl | trivial⟩
  case round =>
    obtain ⟨i, hi, rfl, rfl⟩ := hrel
    by_cases hlt : i < m
    · have his : i < x.size := by omega
      have hL : (i : Int) < (x.size : Int) := by omega
      have hne : ((x[i].toNat : Int) != 46) = true := by
        have h1 := HPRE.out i his hlt
        refine bne_iff_ne.2 fun h2 => h1 (UInt8.toNat_inj.1 ?_)
        have h3 : x[i].toNat = 46 := by omega
        exact h3
      go_wp2_with fail
      go_roundw
      case rel => exact ⟨i + 1, by omega, by go_num, by first | rfl | trivial⟩
      case measure => simp [intOf]; omega
    · obtain rfl : i = m := by omega
      have hL : (i : Int) < (x.size : Int) := by omega
      have heq : ((x[i].toNat : Int) != 46) = false := by
        rw [HEND.out hms]; rfl
      have hr_0 := HR.c0
      have hr_1 := HR.c1
      have hr_2 := HR.c2
      have hr_l := HR.lt
      have hr_f0 := HR.f0
      have hr_f1 := HR.f1
      have hr_f2 := HR.f2
      go_wp2_with fail
      refine bodyPost_ret (v := .tuple #[.agg #[.bool false, .slice none 0 0, .int .i64 0], .int .i64 2]) (by simp [results, Tryz.results8, go_sem, hr_0, hr_1, hr_2]) rfl ?_
      exact ⟨rfl, below3 HB (Nat.le_refl _) _ _ _⟩
set_option maxHeartbeats 4000000 in
/-- No minus, a point, no number. -/
theorem rdp_p_pn (hs : s.size ≤ 256) (h0 : 0 < s.size) (hb : s[0] ≠ 45) (hx : x = s) (hm : m ≤ x.size) (hpre : ∀ i (h : i < x.size), i < m → x[i] ≠ 46) (hend : ∀ h : m < x.size, x[m] = 46) (hms : m < x.size) (hU : (x.extract (m + 1) x.size).toList.isEmpty = false) (hU2 : (x.extract (m + 1) x.size).size ≤ 60) (hd : ∀ W', Calls Tryz.prog 47 #[.string (x.extract 0 m ++ x.extract (m + 1) x.size)] W' (RpN W')) : Calls Tryz.prog 8 #[.string s] W (RDN W 2) := by
  have HPRE := hide hpre
  have HEND := hide hend
  clear hpre hend
  have CP := hide hd
  clear hd
  have h60 : ¬ (60 : Int) < ((x.size - (m + 1) : Nat) : Int) := by rw [size_list, extract_list, List.length_drop, List.length_take, ← size_list] at hU2; omega
  have h61 : decide ((60 : Int) < ((x.size - (m + 1) : Nat) : Int)) = false := decide_eq_false h60
  clear hU2
  have q1 : ((s[0].toNat : Int) == 45) = false := by
    rw [beq_eq_false_iff_ne]
    intro e
    exact hb (UInt8.toNat_inj.1 (by simpa using (show s[0].toNat = 45 by omega)))
  subst hx
  clear hb
  have hxs : x.size ≤ 256 := hs
  have q2 : (0 : Int) < (x.size : Int) := by omega
  have q4 : ¬ (256 : Int) < (x.size : Int) := by omega
  have HB := Bel.refl W
  go_enter Tryz.func8, Tryz.ntmps8
  go_wp2_with fail
  obtain ⟨W3, hW3⟩ : ∃ X, X = W.alloc (.cells #[.bool false, .slice none 0 0, .int .i64 0] 39) := ⟨_, rfl⟩
  rw [← hW3]
  have HR : At W3 W.heap.size [.bool false, .slice none 0 0, .int .i64 0] := by rw [hW3]; exact at_new0 _ _ _
  replace HB : Bel W W3 := by rw [hW3]; exact HB.al _
  have HZ : Ez W3 W.heap.size := by rw [hW3]; exact ez_new _ _ _ _ _
  clear hW3
  go_loopw [5] (fun iv wr => ∃ i : Nat, i ≤ m ∧ iv = .int .i64 (i : Int) ∧ wr = W3) (fun iv _ => m - (intOf iv).toNat)
  case atStart => exact ⟨0, Nat.zero_le _, rfl, by first | rfl | trivial⟩
  case round =>
    obtain ⟨i, hi, rfl, rfl⟩ := hrel
    by_cases hlt : i < m
    · have his : i < x.size := by omega
      have hL : (i : Int) < (x.size : Int) := by omega
      have hne : ((x[i].toNat : Int) != 46) = true := by
        have h1 := HPRE.out i his hlt
        refine bne_iff_ne.2 fun h2 => h1 (UInt8.toNat_inj.1 ?_)
        have h3 : x[i].toNat = 46 := by omega
        exact h3
      go_wp2_with fail
      go_roundw
      case rel => exact ⟨i + 1, by omega, by go_num, by first | rfl | trivial⟩
      case measure => simp [intOf]; omega
    · obtain rfl : i = m := by omega
      have hL : (i : Int) < (x.size : Int) := by omega
      have heq : ((x[i].toNat : Int) != 46) = false := by
        rw [HEND.out hms]; rfl
      go_wp2_with (first | (go_at_call 47; (with_reducible refine (CP.out _).mono ?_); rintro e w1 ⟨B, k0, d, rfl, hbk⟩; replace HR := HR.up hbk; replace HZ := HZ.up hbk; replace HB := HB.up hbk; have hr_0 := HR.c0; have hr_1 := HR.c1; have hr_2 := HR.c2; have hr_l := HR.lt; have hr_f0 := HR.f0; have hr_f1 := HR.f1; have hr_f2 := HR.f2) | fail)
      refine bodyPost_ret (v := .tuple #[.agg #[.bool false, .slice none 0 0, .int .i64 0], .int .i64 2]) (by simp [results, Tryz.results8, go_sem, hr_0, hr_1, hr_2]) rfl ?_
      exact ⟨rfl, below3 HB (Nat.le_refl _) _ _ _⟩
set_option maxHeartbeats 4000000 in
/-- No minus, a point, nothing ahead of it. -/
theorem rdp_p_pa (hs : s.size ≤ 256) (h0 : 0 < s.size) (hb : s[0] ≠ 45) (hx : x = s) (hm : m ≤ x.size) (hpre : ∀ i (h : i < x.size), i < m → x[i] ≠ 46) (hend : ∀ h : m < x.size, x[m] = 46) (hms : m < x.size) (hU : (x.extract (m + 1) x.size).toList.isEmpty = false) (hU2 : (x.extract (m + 1) x.size).size ≤ 60) (hT : (x.extract 0 m).toList.isEmpty = true) (hd : ∀ W', Calls Tryz.prog 47 #[.string (x.extract 0 m ++ x.extract (m + 1) x.size)] W' (RpY W' v)) : Calls Tryz.prog 8 #[.string s] W (RDN W 2) := by
  have HPRE := hide hpre
  have HEND := hide hend
  clear hpre hend
  have CP := hide hd
  clear hd
  have h60 : ¬ (60 : Int) < ((x.size - (m + 1) : Nat) : Int) := by rw [size_list, extract_list, List.length_drop, List.length_take, ← size_list] at hU2; omega
  have h61 : decide ((60 : Int) < ((x.size - (m + 1) : Nat) : Int)) = false := decide_eq_false h60
  clear hU2
  have q1 : ((s[0].toNat : Int) == 45) = false := by
    rw [beq_eq_false_iff_ne]
    intro e
    exact hb (UInt8.toNat_inj.1 (by simpa using (show s[0].toNat = 45 by omega)))
  subst hx
  clear hb
  have hxs : x.size ≤ 256 := hs
  have q2 : (0 : Int) < (x.size : Int) := by omega
  have q4 : ¬ (256 : Int) < (x.size : Int) := by omega
  have HB := Bel.refl W
  go_enter Tryz.func8, Tryz.ntmps8
  go_wp2_with fail
  obtain ⟨W3, hW3⟩ : ∃ X, X = W.alloc (.cells #[.bool false, .slice none 0 0, .int .i64 0] 39) := ⟨_, rfl⟩
  rw [← hW3]
  have HR : At W3 W.heap.size [.bool false, .slice none 0 0, .int .i64 0] := by rw [hW3]; exact at_new0 _ _ _
  replace HB : Bel W W3 := by rw [hW3]; exact HB.al _
  have HZ : Ez W3 W.heap.size := by rw [hW3]; exact ez_new _ _ _ _ _
  clear hW3
  go_loopw [5] (fun iv wr => ∃ i : Nat, i ≤ m ∧ iv = .int .i64 (i : Int) ∧ wr = W3) (fun iv _ => m - (intOf iv).toNat)
  case atStart => exact ⟨0, Nat.zero_le _, rfl, by first | rfl | trivial⟩
  case round =>
    obtain ⟨i, hi, rfl, rfl⟩ := hrel
    by_cases hlt : i < m
    · have his : i < x.size := by omega
      have hL : (i : Int) < (x.size : Int) := by omega
      have hne : ((x[i].toNat : Int) != 46) = true := by
        have h1 := HPRE.out i his hlt
        refine bne_iff_ne.2 fun h2 => h1 (UInt8.toNat_inj.1 ?_)
        have h3 : x[i].toNat = 46 := by omega
        exact h3
      go_wp2_with fail
      go_roundw
      case rel => exact ⟨i + 1, by omega, by go_num, by first | rfl | trivial⟩
      case measure => simp [intOf]; omega
    · obtain rfl : i = m := by omega
      have hL : (i : Int) < (x.size : Int) := by omega
      have heq : ((x[i].toNat : Int) != 46) = false := by
        rw [HEND.out hms]; rfl
      go_wp2_with (first | (go_at_call 47; (with_reducible refine (CP.out _).mono ?_); rintro e w1 ⟨B, d, rfl, rn, hbk⟩; replace HR := HR.up hbk; replace HZ := HZ.up hbk; replace HB := HB.up hbk; have hr_0 := HR.c0; have hr_1 := HR.c1; have hr_2 := HR.c2; have hr_l := HR.lt; have hr_f0 := HR.f0; have hr_f1 := HR.f1; have hr_f2 := HR.f2) | fail)
      refine bodyPost_ret (v := .tuple #[.agg #[.bool false, .slice none 0 0, .int .i64 0], .int .i64 2]) (by simp [results, Tryz.results8, go_sem, hr_0, hr_1, hr_2]) rfl ?_
      exact ⟨rfl, below3 HB (Nat.le_refl _) _ _ _⟩
set_option maxHeartbeats 4000000 in
/-- No minus, a point, a number. -/
theorem rdp_p_py (hs : s.size ≤ 256) (h0 : 0 < s.size) (hb : s[0] ≠ 45) (hx : x = s) (hm : m ≤ x.size) (hpre : ∀ i (h : i < x.size), i < m → x[i] ≠ 46) (hend : ∀ h : m < x.size, x[m] = 46) (hms : m < x.size) (hU : (x.extract (m + 1) x.size).toList.isEmpty = false) (hU2 : (x.extract (m + 1) x.size).size ≤ 60) (hT : (x.extract 0 m).toList.isEmpty = false) (hd : ∀ W', Calls Tryz.prog 47 #[.string (x.extract 0 m ++ x.extract (m + 1) x.size)] W' (RpY W' v)) : Calls Tryz.prog 8 #[.string s] W (RDY W false v (x.size - (m + 1))) := by
  have HPRE := hide hpre
  have HEND := hide hend
  clear hpre hend
  have CP := hide hd
  clear hd
  have h60 : ¬ (60 : Int) < ((x.size - (m + 1) : Nat) : Int) := by rw [size_list, extract_list, List.length_drop, List.length_take, ← size_list] at hU2; omega
  have h61 : decide ((60 : Int) < ((x.size - (m + 1) : Nat) : Int)) = false := decide_eq_false h60
  clear hU2
  have q1 : ((s[0].toNat : Int) == 45) = false := by
    rw [beq_eq_false_iff_ne]
    intro e
    exact hb (UInt8.toNat_inj.1 (by simpa using (show s[0].toNat = 45 by omega)))
  subst hx
  clear hb
  have hxs : x.size ≤ 256 := hs
  have q2 : (0 : Int) < (x.size : Int) := by omega
  have q4 : ¬ (256 : Int) < (x.size : Int) := by omega
  have HB := Bel.refl W
  go_enter Tryz.func8, Tryz.ntmps8
  go_wp2_with fail
  obtain ⟨W3, hW3⟩ : ∃ X, X = W.alloc (.cells #[.bool false, .slice none 0 0, .int .i64 0] 39) := ⟨_, rfl⟩
  rw [← hW3]
  have HR : At W3 W.heap.size [.bool false, .slice none 0 0, .int .i64 0] := by rw [hW3]; exact at_new0 _ _ _
  replace HB : Bel W W3 := by rw [hW3]; exact HB.al _
  have HZ : Ez W3 W.heap.size := by rw [hW3]; exact ez_new _ _ _ _ _
  clear hW3
  go_loopw [5] (fun iv wr => ∃ i : Nat, i ≤ m ∧ iv = .int .i64 (i : Int) ∧ wr = W3) (fun iv _ => m - (intOf iv).toNat)
  case atStart => exact ⟨0, Nat.zero_le _, rfl, by first | rfl | trivial⟩
  case round =>
    obtain ⟨i, hi, rfl, rfl⟩ := hrel
    by_cases hlt : i < m
    · have his : i < x.size := by omega
      have hL : (i : Int) < (x.size : Int) := by omega
      have hne : ((x[i].toNat : Int) != 46) = true := by
        have h1 := HPRE.out i his hlt
        refine bne_iff_ne.2 fun h2 => h1 (UInt8.toNat_inj.1 ?_)
        have h3 : x[i].toNat = 46 := by omega
        exact h3
      go_wp2_with fail
      go_roundw
      case rel => exact ⟨i + 1, by omega, by go_num, by first | rfl | trivial⟩
      case measure => simp [intOf]; omega
    · obtain rfl : i = m := by omega
      have hL : (i : Int) < (x.size : Int) := by omega
      have heq : ((x[i].toNat : Int) != 46) = false := by
        rw [HEND.out hms]; rfl
      go_wp2_with (first | (go_at_call 47; (with_reducible refine (CP.out _).mono ?_); rintro e w1 ⟨B, d, rfl, rn, hbk⟩; replace HR := HR.up hbk; replace HZ := HZ.up hbk; replace HB := HB.up hbk; have hr_0 := HR.c0; have hr_1 := HR.c1; have hr_2 := HR.c2; have hr_l := HR.lt; have hr_f0 := HR.f0; have hr_f1 := HR.f1; have hr_f2 := HR.f2) | fail)
      refine bodyPost_ret (v := .tuple #[.agg #[.bool false, .slice B (dq v) d, .int .i64 ((x.size - (i + 1) : Nat) : Int)], .int .i64 0]) (by simp [results, Tryz.results8, go_sem, hr_0, hr_1, hr_2]) rfl ?_
      refine ⟨B, d, rfl, ?_, below3 HB (Nat.le_refl _) _ _ _⟩
      have r0 := RN.setn rn hr_0 (by intro x h; cases h) (.bool false)
      have r1 := RN.setn r0 ((World.cell?_setCell_other _ _ _ _ (by intro e; cases e)).trans hr_1) (by intro x h; cases h) (.slice B (dq v) d)
      have r2 := RN.setZ r1 ((World.cell?_setCell_other _ _ _ _ (by intro e; cases e)).trans ((World.cell?_setCell_other _ _ _ _ (by intro e; cases e)).trans hr_2)) ((World.cell?_setCell_other _ _ _ _ (by intro e; cases e)).trans ((World.cell?_setCell_other _ _ _ _ (by intro e; cases e)).trans HZ.2)) (.int .i64 ((x.size - (i + 1) : Nat) : Int))
      unfold Rn
      refine RN.more r2 ?_
      simp [World.setCell]
end
end Go.Proofs.YtphnmccpcjecnaaGreatDoor
