/- RowsKnown: the walk. No conditions. -/
import Derived.Test.YtbmpbcnhgnmekaaDoorEp
import Derived.Test.YtbmpbcnhgnmekaaDoorEl
open Go.RowKit
set_option maxRecDepth 100000
namespace Go.Proofs.YtbmpbcnhgnmekaaDoor
def strLen : Value → Nat
  | .string s => s.size
  | _ => 0
set_option maxHeartbeats 8000000 in
theorem known_walk (w : World) : Calls Tryd.prog 3 #[] w fun e w' => e = .returned (.bool true) ∧ Below w.heap.size w w' := by
  obtain ⟨rs, hrs⟩ : ∃ x, x = kn := ⟨_, rfl⟩
  have C1 : Hid (∀ V, Calls Tryd.prog 8 #[.string ⟨#[10, 32, 32, 120, 32, 32, 121, 35, 122, 32, 35, 113, 10, 35, 10, 10, 122, 10]⟩] V fun u w' => ∃ A c, u = .returned (.tuple #[.slice A 2 c, .int .i64 0, .int .i64 0]) ∧ Rs w' A rs ∧ Hid (Below V.heap.size V w')) := fun V => by rw [hrs]; exact parse_form table_kn V
  have C2 : Hid (∀ V, Calls Tryd.prog 8 #[.string ⟨#[97, 10, 98, 9, 99]⟩] V fun u w' => ∃ A c, u = .returned (.tuple #[.slice A 0 c, .int .i64 2, .int .i64 2]) ∧ Rs w' A [] ∧ Hid (Below V.heap.size V w')) := fun V => by have h1 := parse_form table_b V; exact h1
  have C3 : Hid (∀ V, Calls Tryd.prog 8 #[.string ⟨#[97, 10, 35, 32, 128]⟩] V fun u w' => ∃ A c, u = .returned (.tuple #[.slice A 0 c, .int .i64 2, .int .i64 2]) ∧ Rs w' A [] ∧ Hid (Below V.heap.size V w')) := fun V => by have h1 := parse_form table_c V; exact h1
  have C4 : Hid (∀ V, Calls Tryd.prog 8 #[.string (rep ⟨#[97, 32]⟩ 25)] V fun u w' => ∃ A c, u = .returned (.tuple #[.slice A 0 c, .int .i64 1, .int .i64 2]) ∧ Rs w' A [] ∧ Hid (Below V.heap.size V w')) := fun V => by have h1 := parse_form table_w V; exact h1
  have C5 : Hid (∀ V, Calls Tryd.prog 8 #[.string (rep ⟨#[97, 10]⟩ 2001)] V fun u w' => ∃ A c, u = .returned (.tuple #[.slice A 0 c, .int .i64 2001, .int .i64 11]) ∧ Rs w' A [] ∧ Hid (Below V.heap.size V w')) := fun V => by have h1 := parse_form table_many V; exact h1
  have C6 : Hid (∀ (s : ByteArray), 65536 < s.size → ∀ V, Calls Tryd.prog 8 #[.string s] V fun u w' => ∃ A c, u = .returned (.tuple #[.slice A 0 c, .int .i64 0, .int .i64 11]) ∧ Rs w' A [] ∧ Hid (Below V.heap.size V w')) := fun s hs V => by have h1 := parse_form (table_long hs) V; exact h1
  have CZ : Hid (∀ V A c, Rs V A rs → Calls Tryd.prog 9 #[.slice A 2 c, .string ⟨#[122]⟩] V fun u w' => ∃ g c, u = .returned (.slice (some ⟨g, 0, none⟩) 1 c) ∧ g < w'.heap.size ∧ w'.cell? ⟨g, 0, none⟩ = some (.int .i64 5) ∧ Hid (Below V.heap.size V w')) := fun V A c hh => by
    have h1 := of_any (c := c) (kind := ⟨#[122]⟩) hh (show 2 = rs.length by rw [hrs]; rfl) (by decide) (by rw [hrs]; decide)
    rw [hrs, of_z] at h1
    refine h1.mono fun u w' ⟨A', c', h2, h3, h4⟩ => ?_
    obtain ⟨g, _, _, rfl, hg, hc0, _⟩ := h3.row (k := 0) rfl
    exact ⟨g, c', h2, hg, hc0, h4⟩
  have CQ : Hid (∀ V A c, Rs V A rs → Calls Tryd.prog 9 #[.slice A 2 c, .string ⟨#[113]⟩] V fun u w' => ∃ A c, u = .returned (.slice A 0 c) ∧ Hid (Below V.heap.size V w')) := fun V A c hh => by
    have h1 := of_any (c := c) (kind := ⟨#[113]⟩) hh (show 2 = rs.length by rw [hrs]; rfl) (by decide) (by rw [hrs]; decide)
    rw [hrs, of_q] at h1
    exact h1.mono fun u w' ⟨A', c', h2, _, h4⟩ => ⟨A', c', h2, h4⟩
  have CA : Hid (∀ V A c, Rs V A rs → Calls Tryd.prog 10 #[.slice A 2 c, .slice (some ⟨V.heap.size + 2, 0, none⟩) 2 2] (((V.alloc (.cells #[.string ⟨#[120]⟩, .string ⟨#[121, 35, 122]⟩] 9)).alloc (.cells #[.string ⟨#[122]⟩] 9)).alloc (.cells #[.int .i64 2, .slice (some ⟨V.heap.size, 0, none⟩) 2 2, .int .i64 5, .slice (some ⟨V.heap.size + 1, 0, none⟩) 1 1] 31)) (TextsR (((V.alloc (.cells #[.string ⟨#[120]⟩, .string ⟨#[121, 35, 122]⟩] 9)).alloc (.cells #[.string ⟨#[122]⟩] 9)).alloc (.cells #[.int .i64 2, .slice (some ⟨V.heap.size, 0, none⟩) 2 2, .int .i64 5, .slice (some ⟨V.heap.size + 1, 0, none⟩) 1 1] 31)) true)) := fun V A c h => by
    have e1 := (lit_ss V [⟨#[120]⟩, ⟨#[121, 35, 122]⟩] _ rfl 9).al (.cells #[.string ⟨#[122]⟩] 9)
    have e2 := lit_ss (V.alloc (.cells #[.string ⟨#[120]⟩, .string ⟨#[121, 35, 122]⟩] 9)) [⟨#[122]⟩] _ rfl 9
    have h1 := rs_lit2 (l := 2) (c := 2) (m := 2) (l' := 5) (d := 1) (m' := 1) e1 e2 rfl rfl (fun h => by cases h) (fun h => by cases h) (Nat.le_refl _) (Nat.le_refl _) 31
    simp only [World.size_alloc] at h1
    refine alike_same (rs := rs) (((h.al _).al _).al _) (by rw [hrs]; exact h1) (by rw [hrs]; rfl) (by decide) (by rw [hrs]; decide)
  clear hrs
  go_enter Tryd.func3, Tryd.ntmps3
  go_wp2_with (first | (go_at_call 7; (with_reducible refine (awake7_h _).mono ?_); rintro e w1 ⟨rfl, hb⟩) | (go_at_call 8; (with_reducible refine (C1.out _).mono ?_); rintro e w2 ⟨A1, c1, rfl, HA, hbn⟩; replace hb : Hid (Below w.heap.size w w2) := hb.out.trans (hbn.out.mono hb.out.size); clear hbn) | (go_at_call 8; (with_reducible refine (C2.out _).mono ?_); rintro e w3 ⟨A2, c2, rfl, HA2, hbn⟩; replace HA := HA.up hbn; replace hb : Hid (Below w.heap.size w w3) := hb.out.trans (hbn.out.mono hb.out.size); clear hbn) | (go_at_call 8; (with_reducible refine (C3.out _).mono ?_); rintro e w4 ⟨A3, c3, rfl, HA3, hbn⟩; replace HA := HA.up hbn; replace hb : Hid (Below w.heap.size w w4) := hb.out.trans (hbn.out.mono hb.out.size); clear hbn) | fail)
  have HA0 : Rs w4 A1 rs := HA
  clear HA2 HA3
  go_loopw [10, 11] (fun sv iv wr => ∃ k : Nat, k ≤ 25 ∧ iv = .int .i64 (k : Int) ∧ sv = .string (rep ⟨#[97, 32]⟩ k) ∧ Hid (Below w.heap.size w wr) ∧ Rs wr A1 rs) (fun _ iv _ => 25 - (intOf iv).toNat)
  case atStart => exact ⟨0, Nat.zero_le _, rfl, rfl, hb, HA⟩
  case round =>
    obtain ⟨k, hk, rfl, rfl, HW, HR⟩ := hrel
    by_cases hlt : k < 25
    · have w1' : IntKind.i64.wrap ((k : Int) + 1) = (k : Int) + 1 := IntWalk.i64_in _ (by omega)
      have sz : ¬ 9223372036854775807 < (rep ⟨#[97, 32]⟩ k).size + 2 := by rw [rep_size]; show ¬ 9223372036854775807 < k * 2 + 2; omega
      have dl : decide ((k : Int) < 25) = true := decide_eq_true (by omega)
      go_wp2
      go_roundw
      case rel => exact ⟨k + 1, by omega, by go_num, by rw [← rep_more], HW, HR⟩
      case measure => simp [intOf]; omega
    · obtain rfl : k = 25 := by omega
      replace hb := HW
      replace HA := HR
      clear HW HR
      go_wp2_with (first | (go_at_call 8; (with_reducible refine (C4.out _).mono ?_); rintro e w5 ⟨A4, c4, rfl, HA4, hbn⟩; replace HA := HA.up hbn; replace hb : Hid (Below w.heap.size w w5) := hb.out.trans (hbn.out.mono hb.out.size); clear hbn) | fail)
      go_loopw [15, 16] (fun sv iv wr => ∃ k : Nat, k ≤ 2001 ∧ iv = .int .i64 (k : Int) ∧ sv = .string (rep ⟨#[97, 10]⟩ k) ∧ Hid (Below w.heap.size w wr) ∧ Rs wr A1 rs) (fun _ iv _ => 2001 - (intOf iv).toNat)
      case atStart => exact ⟨0, Nat.zero_le _, rfl, rfl, hb, HA⟩
      case round =>
        obtain ⟨k, hk, rfl, rfl, HW, HR⟩ := hrel
        by_cases hlt : k < 2001
        · have w1' : IntKind.i64.wrap ((k : Int) + 1) = (k : Int) + 1 := IntWalk.i64_in _ (by omega)
          have sz : ¬ 9223372036854775807 < (rep ⟨#[97, 10]⟩ k).size + 2 := by rw [rep_size]; show ¬ 9223372036854775807 < k * 2 + 2; omega
          have dl : decide ((k : Int) < 2001) = true := decide_eq_true (by omega)
          go_wp2
          go_roundw
          case rel => exact ⟨k + 1, by omega, by go_num, by rw [← rep_more], HW, HR⟩
          case measure => simp [intOf]; omega
        · obtain rfl : k = 2001 := by omega
          replace hb := HW
          replace HA := HR
          clear HW HR
          have hsz : (rep ⟨#[97, 10]⟩ 2001).size = 4002 := by rw [rep_size]; rfl
          go_wp2_with (first | (go_at_call 8; (with_reducible refine (C5.out _).mono ?_); rintro e w6 ⟨A5, c5, rfl, HA5, hbn⟩; replace HA := HA.up hbn; replace hb : Hid (Below w.heap.size w w6) := hb.out.trans (hbn.out.mono hb.out.size); clear hbn) | fail)
          go_loopw [20] (fun sv wr => ∃ s : ByteArray, sv = .string s ∧ 1 ≤ s.size ∧ s.size ≤ 131072 ∧ Hid (Below w.heap.size w wr) ∧ Rs wr A1 rs) (fun sv _ => 131072 - strLen sv)
          case atStart => exact ⟨_, rfl, by omega, by omega, hb, HA⟩
          case round =>
            obtain ⟨s, rfl, hs1, hs2, HW, HR⟩ := hrel
            by_cases hlt : s.size ≤ 65536
            · have sz : ¬ 9223372036854775807 < s.size + s.size := by omega
              have dl : decide ((s.size : Int) ≤ 65536) = true := decide_eq_true (by omega)
              have hz : (s ++ s).size = s.size + s.size := ByteArray.size_append
              go_wp2
              go_roundw
              case rel => exact ⟨s ++ s, rfl, by omega, by omega, HW, HR⟩
              case measure => show 131072 - (s ++ s).size < 131072 - s.size; omega
            · have dl : decide ((s.size : Int) ≤ 65536) = false := decide_eq_false (by omega)
              replace C6 := ehide (C6.out s (by omega))
              replace hb := HW
              replace HA := HR
              clear HW HR
              go_wp2_with (first
                | (go_at_call 8; (with_reducible refine (C6.out _).mono ?_); rintro e w7 ⟨A6, c6, rfl, HA6, hbn⟩; replace HA := HA.up hbn; replace hb : Hid (Below w.heap.size w w7) := hb.out.trans (hbn.out.mono hb.out.size); clear hbn)
                | (go_at_call 9; (with_reducible refine (CZ.out _ _ _ HA).mono ?_); rintro e w8 ⟨gz, cz, rfl, hgz, hz0, hbn⟩; replace HA := HA.up hbn; replace hb : Hid (Below w.heap.size w w8) := hb.out.trans (hbn.out.mono hb.out.size); clear hbn)
                | (go_at_call 10; (refine (CA.out _ _ _ HA).mono ?_); rintro e w9 ⟨rfl, hbn⟩; replace HA := (((HA.al _).al _).al _).up hbn; replace hz0 : w9.cell? ⟨gz, 0, none⟩ = some (.int .i64 5) := (hbn.out.cell (p := ⟨gz, 0, none⟩) (by simp; omega)).trans ((World.cell?_alloc_lt _ _ _ (by simp; omega)).trans ((World.cell?_alloc_lt _ _ _ (by simp; omega)).trans ((World.cell?_alloc_lt _ _ _ hgz).trans hz0))); replace hb : Hid (Below w.heap.size w w9) := (((hb.out.alloc hb.out.size _).alloc (by have := hb.out.size; simp; omega) _).alloc (by have := hb.out.size; simp; omega) _).trans (hbn.out.mono (by have := hb.out.size; simp; omega)); clear hbn)
                | (go_at_call 9; (with_reducible refine (CQ.out _ _ _ HA).mono ?_); rintro e wa ⟨Aq, cq, rfl, hbn⟩; replace hb : Hid (Below w.heap.size w wa) := hb.out.trans (hbn.out.mono hb.out.size); clear hbn)
                | fail)
              go_ret
              exact ⟨rfl, hb⟩
end Go.Proofs.YtbmpbcnhgnmekaaDoor
