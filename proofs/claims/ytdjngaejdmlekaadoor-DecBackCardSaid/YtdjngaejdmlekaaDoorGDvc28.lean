/- Several texts in one, each with its own sentence and conditions. -/
import Derived.Test.YtdjngaejdmlekaaDoorDo
import Derived.Test.YtdjngaejdmlekaaDoorDs
import Derived.Test.YtdjngaejdmlekaaDoorGDvc26
section
/- A numeral's value: what Of makes of it. No conditions. -/
open Go.RowKit
set_option maxRecDepth 100000
namespace Go.Proofs.YtdjngaejdmlekaaDoor
theorem rat_num {b : Bool} {m s : Nat} {r : Rat} (hr : mkRat (zi b m) (10 ^ s) = r) : r.num.natAbs * 10 ^ s = m * r.den := by
  have h0 : 10 ^ s ≠ 0 := Nat.ne_of_gt (Nat.pow_pos (by decide))
  have h1 : r.num * ((10 ^ s : Nat) : Int) = zi b m * (r.den : Int) := by
    have e : mkRat r.num r.den = mkRat (zi b m) (10 ^ s) := by rw [Rat.mkRat_self, hr]
    exact (Rat.mkRat_eq_iff r.den_nz h0).1 e
  have h2 := congrArg Int.natAbs h1
  rw [Int.natAbs_mul, Int.natAbs_mul, zi_abs, Int.natAbs_natCast, Int.natAbs_natCast] at h2
  exact h2
theorem rat_dvd {b : Bool} {m s j : Nat} {r : Rat} (hr : mkRat (zi b m) (10 ^ s) = r) : r.den ∣ 10 ^ j ↔ 10 ^ s ∣ m * 10 ^ j := by
  have h1 := rat_num hr
  have h0 : 0 < 10 ^ s := Nat.pow_pos (by decide)
  constructor
  · rintro ⟨f, hf⟩
    refine ⟨r.num.natAbs * f, ?_⟩
    rw [hf, ← Nat.mul_assoc, ← h1, Nat.mul_comm r.num.natAbs, Nat.mul_assoc]
  · rintro ⟨g, hg⟩
    have h2 : r.num.natAbs * 10 ^ j = g * r.den := by
      have h3 : r.num.natAbs * 10 ^ j * 10 ^ s = g * r.den * 10 ^ s := by
        rw [Nat.mul_right_comm, h1, Nat.mul_right_comm, hg, Nat.mul_comm (10 ^ s) g, Nat.mul_right_comm]
      exact Nat.eq_of_mul_eq_mul_right h0 h3
    have hc : Nat.Coprime r.den r.num.natAbs := r.reduced.symm
    exact hc.dvd_of_dvd_mul_left ⟨g, by rw [h2, Nat.mul_comm]⟩
/-- The least scale that tells it just is Short's, and the number too. -/
theorem rat_short {b : Bool} {m s : Nat} {r : Rat} (hr : mkRat (zi b m) (10 ^ s) = r) :
    r.den ∣ 10 ^ shortS m s ∧ (∀ k, k < shortS m s → ¬ r.den ∣ 10 ^ k) ∧ r.num.natAbs * (10 ^ shortS m s / r.den) = m / 10 ^ (s - shortS m s) := by
  have hle := short_le m s
  have h1 : r.den ∣ 10 ^ shortS m s := (rat_dvd hr).2 (short_least.2 ⟨Nat.le_refl _, hle⟩).1
  refine ⟨h1, fun k hk h2 => ?_, ?_⟩
  · have h3 := short_least.1 ⟨(rat_dvd hr).1 h2, by omega⟩
    omega
  · obtain ⟨f, hf⟩ := h1
    obtain ⟨n, hn⟩ := short_dvd m s
    have h0 : 0 < 10 ^ s := Nat.pow_pos (by decide)
    have hd : 0 < r.den := r.den_pos
    have hk : 0 < 10 ^ (s - shortS m s) := Nat.pow_pos (by decide)
    have e1 : 10 ^ shortS m s / r.den = f := by rw [hf]; exact Nat.mul_div_cancel_left f hd
    have e2 : m / 10 ^ (s - shortS m s) = n := by
      have h3 : m / 10 ^ (s - shortS m s) = 10 ^ (s - shortS m s) * n / 10 ^ (s - shortS m s) := congrArg (· / 10 ^ (s - shortS m s)) hn
      rw [h3]; exact Nat.mul_div_cancel_left n hk
    rw [e1, e2]
    have e3 : 10 ^ s = 10 ^ (s - shortS m s) * 10 ^ shortS m s := by rw [← Nat.pow_add]; congr 1; omega
    have h4 := rat_num hr
    refine Nat.eq_of_mul_eq_mul_right h0 ?_
    calc r.num.natAbs * f * 10 ^ s = r.num.natAbs * 10 ^ s * f := Nat.mul_right_comm _ _ _
      _ = m * r.den * f := by rw [h4]
      _ = m * 10 ^ shortS m s := by rw [Nat.mul_assoc, ← hf]
      _ = 10 ^ (s - shortS m s) * n * 10 ^ shortS m s := by rw [← hn]
      _ = n * 10 ^ s := by rw [e3, Nat.mul_comm (10 ^ (s - shortS m s)) n, Nat.mul_assoc]
/-- Without noughts it is the same value. -/
theorem short_val (b : Bool) (m s : Nat) : mkRat (zi b (m / 10 ^ (s - shortS m s))) (10 ^ shortS m s) = mkRat (zi b m) (10 ^ s) := by
  have hle := short_le m s
  obtain ⟨n, hn⟩ := short_dvd m s
  have hk : 0 < 10 ^ (s - shortS m s) := Nat.pow_pos (by decide)
  have e2 : m / 10 ^ (s - shortS m s) = n := by
    have h3 : m / 10 ^ (s - shortS m s) = 10 ^ (s - shortS m s) * n / 10 ^ (s - shortS m s) := congrArg (· / 10 ^ (s - shortS m s)) hn
    rw [h3]; exact Nat.mul_div_cancel_left n hk
  rw [e2, Rat.mkRat_eq_iff (Nat.ne_of_gt (Nat.pow_pos (by decide))) (Nat.ne_of_gt (Nat.pow_pos (by decide)))]
  have e3 : 10 ^ s = 10 ^ (s - shortS m s) * 10 ^ shortS m s := by rw [← Nat.pow_add]; congr 1; omega
  have e4 : n * 10 ^ s = m * 10 ^ shortS m s := by
    have h5 : m * 10 ^ shortS m s = 10 ^ (s - shortS m s) * n * 10 ^ shortS m s := congrArg (· * 10 ^ shortS m s) hn
    rw [h5, e3, Nat.mul_comm (10 ^ (s - shortS m s)) n, Nat.mul_assoc]
  have e5 : (n : Int) * ((10 ^ s : Nat) : Int) = (m : Int) * ((10 ^ shortS m s : Nat) : Int) := by rw [← Int.natCast_mul, ← Int.natCast_mul, e4]
  cases b
  · rw [zi_false, zi_false]; exact e5
  · rw [zi_true, zi_true, Int.neg_mul, Int.neg_mul, e5]
theorem rat_neg {b : Bool} {m s : Nat} {r : Rat} (hr : mkRat (zi b m) (10 ^ s) = r) (hb : b = true → 0 < m) : decide (r.num < 0) = b := by
  have h0 : 0 < 10 ^ s := Nat.pow_pos (by decide)
  have e := sign_mk (z := zi b m) h0
  rw [hr] at e
  cases b
  · refine decide_eq_false fun h => ?_
    have h2 := Int.sign_neg_iff.2 h
    rw [e, zi_false] at h2
    have := Int.sign_neg_iff.1 h2
    omega
  · refine decide_eq_true (Int.sign_neg_iff.1 ?_)
    rw [e, zi_true]
    exact Int.sign_neg_iff.2 (by have := hb rfl; omega)
end Go.Proofs.YtdjngaejdmlekaaDoor
end

section
/- Statements of dec: what is ahead of the point, told. Conditions: numbers of at most 99999 words. -/
open Go.RowKit
set_option maxRecDepth 100000
namespace Go.Proofs.YtdjngaejdmlekaaDoor
theorem get_list {x : ByteArray} {l : List UInt8} (h : x.data.toList = l) {k : Nat} (hk : k < l.length) : ∃ hx : k < x.size, x[k] = l[k] := by
  subst h
  exact ⟨hk, rfl⟩
theorem dig_no46 {c : UInt8} (h : isDig c = true) : ((c.toNat : Int) == 46) = false := by
  have := (dig_iff c).1 h
  rw [beq_eq_false_iff_ne]; omega
theorem dig_no45 {c : UInt8} (h : isDig c = true) : ((c.toNat : Int) == 45) = false := by
  have := (dig_iff c).1 h
  rw [beq_eq_false_iff_ne]; omega
/-- Ahead of the point no letter is one. -/
theorem ahead_no {x : ByteArray} {X R : List UInt8} (h : x.data.toList = X ++ R) (hX : X.all isDig = true) {k : Nat} (hk : k < X.length) : ∃ hx : k < x.size, ((x[k].toNat : Int) == 46) = false := by
  obtain ⟨hx, e⟩ := get_list h (k := k) (by rw [List.length_append]; omega)
  refine ⟨hx, ?_⟩
  rw [e, List.getElem_append_left hk]
  exact dig_no46 (List.all_eq_true.1 hX _ (List.getElem_mem hk))
theorem at_point {x : ByteArray} {X R : List UInt8} (h : x.data.toList = X ++ 46 :: R) : ∃ hx : X.length < x.size, ((x[X.length].toNat : Int) == 46) = true := by
  obtain ⟨hx, e⟩ := get_list h (k := X.length) (by rw [List.length_append, List.length_cons]; omega)
  refine ⟨hx, ?_⟩
  rw [e, List.getElem_append_right (Nat.le_refl _)]
  simp
theorem head_minus {t : ByteArray} {b : Bool} {m s : Nat} (h : t.data.toList = decD b m s) : ∃ hx : 0 < t.size, ((t[0].toNat : Int) == 45) = b := by
  obtain ⟨c, cs, hc⟩ : ∃ c cs, decL (m / 10 ^ s) = c :: cs := by
    cases h : decL (m / 10 ^ s) with
    | nil => exact absurd h (decL_ne _)
    | cons c cs => exact ⟨c, cs, rfl⟩
  have hd := decL_all (m / 10 ^ s)
  rw [hc, List.all_cons, Bool.and_eq_true] at hd
  unfold decD at h
  rw [hc] at h
  obtain ⟨hx, e⟩ := get_list h (k := 0) (by simp; omega)
  refine ⟨hx, ?_⟩
  rw [e]
  cases b
  · simpa using dig_no45 hd.1
  · simp
section
variable {W : World} {b : Bool} {A : Option Addr} {n c m s : Nat}
set_option maxHeartbeats 4000000 in
theorem lwhole_pz (h : DX W b A n c m s) (hd : dl m ≤ 99999) (hl : (decD b m s).length ≤ 100000) (hb : b = false) (h0 : s = 0) : Calls Tryd.prog 68 #[.agg #[.bool b, .slice A n c, .int .i64 (s : Int)]] W (TxR W (decL (m / 10 ^ s))) := by
  subst hb
  have CT : Hid (∀ W', Bel W W' → Calls Tryd.prog 60 #[.agg #[.bool false, .slice A n c, .int .i64 (s : Int)]] W' (TxR W' (decD false m s))) := fun W' hb => dtext_h (h.bel hb).y hd
  obtain ⟨X, hX⟩ : ∃ X, X = decL (m / 10 ^ s) := ⟨_, rfl⟩
  obtain ⟨P, hP⟩ : ∃ P, P = partL m s := ⟨_, rfl⟩
  have hD : Hid (decD false m s = (X ++ [])) := by unfold Hid decD; rw [if_pos h0, hX]; rfl
  have hXa : Hid (X.all isDig = true) := by unfold Hid; rw [hX]; exact decL_all _
  have HL := hide hl
  rw [← hX]
  clear h hd hl h0 hX hP
  have HB := Bel.refl W
  go_enter Tryd.func68, Tryd.ntmps68
  go_wp2_with (first | (go_at_call 60; (with_reducible refine (CT.out _ (HB.al _)).mono ?_); rintro e w1 ⟨t, rfl, ht, hbk⟩; replace HB := (HB.al _).up hbk; obtain ⟨h1, hxt⟩ := head_minus ht.out; have hts : t.size ≤ 100000 := (by rw [size_list, ht.out]; exact HL.out)) | fail)
  have hxl : t.data.toList = X ++ [] := by rw [ht.out, hD.out]
  have HXL := hide hxl
  clear hxl
  obtain ⟨L, hLL⟩ : ∃ L, L = X.length := ⟨_, rfl⟩
  have HLL := hide hLL
  clear hLL
  go_loop [4] (fun iv => ∃ k : Nat, k ≤ L ∧ iv = .int .i64 (k : Int)) (fun iv => L - (intOf iv).toNat)
  case atStart => exact ⟨0, Nat.zero_le _, rfl⟩
  case round =>
    obtain ⟨k, hk, rfl⟩ := hrel
    by_cases hlt : k < L
    · obtain ⟨hlx, hxt2⟩ := ahead_no HXL.out hXa.out (show k < X.length by rw [← HLL.out]; exact hlt)
      go_wp2
      go_round
      case rel => exact ⟨k + 1, by omega, by go_num⟩
      case measure => simp [intOf]; omega
    · obtain rfl : k = L := by omega
      have hsz : ¬ k < t.size := by rw [size_list, HXL.out, HLL.out]; simp
      go_wp2
      go_ret
      exact ⟨t, rfl, by unfold Hid; rw [HXL.out, List.append_nil], HB⟩
set_option maxHeartbeats 4000000 in
theorem lwhole_pp (h : DX W b A n c m s) (hd : dl m ≤ 99999) (hl : (decD b m s).length ≤ 100000) (hb : b = false) (h0 : s ≠ 0) : Calls Tryd.prog 68 #[.agg #[.bool b, .slice A n c, .int .i64 (s : Int)]] W (TxR W (decL (m / 10 ^ s))) := by
  subst hb
  have CT : Hid (∀ W', Bel W W' → Calls Tryd.prog 60 #[.agg #[.bool false, .slice A n c, .int .i64 (s : Int)]] W' (TxR W' (decD false m s))) := fun W' hb => dtext_h (h.bel hb).y hd
  obtain ⟨X, hX⟩ : ∃ X, X = decL (m / 10 ^ s) := ⟨_, rfl⟩
  obtain ⟨P, hP⟩ : ∃ P, P = partL m s := ⟨_, rfl⟩
  have hD : Hid (decD false m s = (X ++ (46 :: P))) := by unfold Hid decD; rw [if_neg h0, hX, hP]; rfl
  have hXa : Hid (X.all isDig = true) := by unfold Hid; rw [hX]; exact decL_all _
  have HL := hide hl
  rw [← hX]
  clear h hd hl h0 hX hP
  have HB := Bel.refl W
  go_enter Tryd.func68, Tryd.ntmps68
  go_wp2_with (first | (go_at_call 60; (with_reducible refine (CT.out _ (HB.al _)).mono ?_); rintro e w1 ⟨t, rfl, ht, hbk⟩; replace HB := (HB.al _).up hbk; obtain ⟨h1, hxt⟩ := head_minus ht.out; have hts : t.size ≤ 100000 := (by rw [size_list, ht.out]; exact HL.out)) | fail)
  have hxl : t.data.toList = X ++ 46 :: P := by rw [ht.out, hD.out]
  have HXL := hide hxl
  clear hxl
  obtain ⟨L, hLL⟩ : ∃ L, L = X.length := ⟨_, rfl⟩
  have HLL := hide hLL
  clear hLL
  go_loop [4] (fun iv => ∃ k : Nat, k ≤ L ∧ iv = .int .i64 (k : Int)) (fun iv => L - (intOf iv).toNat)
  case atStart => exact ⟨0, Nat.zero_le _, rfl⟩
  case round =>
    obtain ⟨k, hk, rfl⟩ := hrel
    by_cases hlt : k < L
    · obtain ⟨hlx, hxt2⟩ := ahead_no HXL.out hXa.out (show k < X.length by rw [← HLL.out]; exact hlt)
      go_wp2
      go_round
      case rel => exact ⟨k + 1, by omega, by go_num⟩
      case measure => simp [intOf]; omega
    · obtain rfl : k = L := by omega
      have hp := at_point HXL.out
      rw [← HLL.out] at hp
      obtain ⟨hlx, hxt2⟩ := hp
      have q0 : (0 : Int) ≤ (k : Int) := by omega
      have q1 : (k : Int) ≤ (t.size : Int) := by omega
      have q2 : k ≤ t.size := by omega
      go_wp2
      go_ret
      refine ⟨_, rfl, ?_, HB⟩
      unfold Hid
      rw [extract_list, HXL.out, List.drop_zero, HLL.out, List.take_left]
set_option maxHeartbeats 4000000 in
theorem lwhole_nz (h : DX W b A n c m s) (hd : dl m ≤ 99999) (hl : (decD b m s).length ≤ 100000) (hb : b = true) (h0 : s = 0) : Calls Tryd.prog 68 #[.agg #[.bool b, .slice A n c, .int .i64 (s : Int)]] W (TxR W (decL (m / 10 ^ s))) := by
  subst hb
  have CT : Hid (∀ W', Bel W W' → Calls Tryd.prog 60 #[.agg #[.bool true, .slice A n c, .int .i64 (s : Int)]] W' (TxR W' (decD true m s))) := fun W' hb => dtext_h (h.bel hb).y hd
  obtain ⟨X, hX⟩ : ∃ X, X = decL (m / 10 ^ s) := ⟨_, rfl⟩
  obtain ⟨P, hP⟩ : ∃ P, P = partL m s := ⟨_, rfl⟩
  have hD : Hid (decD true m s = 45 :: (X ++ [])) := by unfold Hid decD; rw [if_pos h0, hX]; rfl
  have hXa : Hid (X.all isDig = true) := by unfold Hid; rw [hX]; exact decL_all _
  have HL := hide hl
  rw [← hX]
  clear h hd hl h0 hX hP
  have HB := Bel.refl W
  go_enter Tryd.func68, Tryd.ntmps68
  go_wp2_with (first | (go_at_call 60; (with_reducible refine (CT.out _ (HB.al _)).mono ?_); rintro e w1 ⟨t, rfl, ht, hbk⟩; replace HB := (HB.al _).up hbk; obtain ⟨h1, hxt⟩ := head_minus ht.out; have hts : t.size ≤ 100000 := (by rw [size_list, ht.out]; exact HL.out); have hs1 : 1 ≤ t.size := h1) | fail)
  obtain ⟨x, hx⟩ : ∃ x, x = t.extract 1 t.size := ⟨_, rfl⟩
  rw [← hx]
  have hxl : x.data.toList = X ++ [] := by
    rw [hx, extract_list, List.take_of_length_le (show t.data.toList.length ≤ t.size from Nat.le_refl _), ht.out, hD.out]; rfl
  have hxs : x.size ≤ 100000 := by rw [hx]; simp; omega
  have HXL := hide hxl
  clear hxl hx hxt hts
  obtain ⟨L, hLL⟩ : ∃ L, L = X.length := ⟨_, rfl⟩
  have HLL := hide hLL
  clear hLL
  go_loop [4] (fun iv => ∃ k : Nat, k ≤ L ∧ iv = .int .i64 (k : Int)) (fun iv => L - (intOf iv).toNat)
  case atStart => exact ⟨0, Nat.zero_le _, rfl⟩
  case round =>
    obtain ⟨k, hk, rfl⟩ := hrel
    by_cases hlt : k < L
    · obtain ⟨hlx, hxt⟩ := ahead_no HXL.out hXa.out (show k < X.length by rw [← HLL.out]; exact hlt)
      go_wp2
      go_round
      case rel => exact ⟨k + 1, by omega, by go_num⟩
      case measure => simp [intOf]; omega
    · obtain rfl : k = L := by omega
      have hsz : ¬ k < x.size := by rw [size_list, HXL.out, HLL.out]; simp
      go_wp2
      go_ret
      exact ⟨x, rfl, by unfold Hid; rw [HXL.out, List.append_nil], HB⟩
set_option maxHeartbeats 4000000 in
theorem lwhole_np (h : DX W b A n c m s) (hd : dl m ≤ 99999) (hl : (decD b m s).length ≤ 100000) (hb : b = true) (h0 : s ≠ 0) : Calls Tryd.prog 68 #[.agg #[.bool b, .slice A n c, .int .i64 (s : Int)]] W (TxR W (decL (m / 10 ^ s))) := by
  subst hb
  have CT : Hid (∀ W', Bel W W' → Calls Tryd.prog 60 #[.agg #[.bool true, .slice A n c, .int .i64 (s : Int)]] W' (TxR W' (decD true m s))) := fun W' hb => dtext_h (h.bel hb).y hd
  obtain ⟨X, hX⟩ : ∃ X, X = decL (m / 10 ^ s) := ⟨_, rfl⟩
  obtain ⟨P, hP⟩ : ∃ P, P = partL m s := ⟨_, rfl⟩
  have hD : Hid (decD true m s = 45 :: (X ++ (46 :: P))) := by unfold Hid decD; rw [if_neg h0, hX, hP]; rfl
  have hXa : Hid (X.all isDig = true) := by unfold Hid; rw [hX]; exact decL_all _
  have HL := hide hl
  rw [← hX]
  clear h hd hl h0 hX hP
  have HB := Bel.refl W
  go_enter Tryd.func68, Tryd.ntmps68
  go_wp2_with (first | (go_at_call 60; (with_reducible refine (CT.out _ (HB.al _)).mono ?_); rintro e w1 ⟨t, rfl, ht, hbk⟩; replace HB := (HB.al _).up hbk; obtain ⟨h1, hxt⟩ := head_minus ht.out; have hts : t.size ≤ 100000 := (by rw [size_list, ht.out]; exact HL.out); have hs1 : 1 ≤ t.size := h1) | fail)
  obtain ⟨x, hx⟩ : ∃ x, x = t.extract 1 t.size := ⟨_, rfl⟩
  rw [← hx]
  have hxl : x.data.toList = X ++ 46 :: P := by
    rw [hx, extract_list, List.take_of_length_le (show t.data.toList.length ≤ t.size from Nat.le_refl _), ht.out, hD.out]; rfl
  have hxs : x.size ≤ 100000 := by rw [hx]; simp; omega
  have HXL := hide hxl
  clear hxl hx hxt hts
  obtain ⟨L, hLL⟩ : ∃ L, L = X.length := ⟨_, rfl⟩
  have HLL := hide hLL
  clear hLL
  go_loop [4] (fun iv => ∃ k : Nat, k ≤ L ∧ iv = .int .i64 (k : Int)) (fun iv => L - (intOf iv).toNat)
  case atStart => exact ⟨0, Nat.zero_le _, rfl⟩
  case round =>
    obtain ⟨k, hk, rfl⟩ := hrel
    by_cases hlt : k < L
    · obtain ⟨hlx, hxt⟩ := ahead_no HXL.out hXa.out (show k < X.length by rw [← HLL.out]; exact hlt)
      go_wp2
      go_round
      case rel => exact ⟨k + 1, by omega, by go_num⟩
      case measure => simp [intOf]; omega
    · obtain rfl : k = L := by omega
      have hp := at_point HXL.out
      rw [← HLL.out] at hp
      obtain ⟨hlx, hxt⟩ := hp
      have q0 : (0 : Int) ≤ (k : Int) := by omega
      have q1 : (k : Int) ≤ (x.size : Int) := by omega
      have q2 : k ≤ x.size := by omega
      go_wp2
      go_ret
      refine ⟨_, rfl, ?_, HB⟩
      unfold Hid
      rw [extract_list, HXL.out, List.drop_zero, HLL.out, List.take_left]
theorem lwhole_h (h : DX W b A n c m s) (hd : dl m ≤ 99999) (hl : (decD b m s).length ≤ 100000) : Calls Tryd.prog 68 #[.agg #[.bool b, .slice A n c, .int .i64 (s : Int)]] W (TxR W (decL (m / 10 ^ s))) := by
  by_cases h0 : s = 0
  · cases b
    · exact lwhole_pz h hd hl rfl h0
    · exact lwhole_nz h hd hl rfl h0
  · cases b
    · exact lwhole_pp h hd hl rfl h0
    · exact lwhole_np h hd hl rfl h0
end
end Go.Proofs.YtdjngaejdmlekaaDoor
end
