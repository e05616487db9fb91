/- The document's own numerals: DWhole, DRat. Conditions: numbers of at most 99999 of its words, scales of at most 1000. -/
import Derived.Test.YtphnmccpcjecnaaGreatDoorGDsbc16
import Derived.Test.YtphnmccpcjecnaaGreatDoorGDsbc1
import Derived.Test.YtphnmccpcjecnaaGreatDoorGDsbc22
import Derived.Deep.RegionHeld3
open Go.RowKit
set_option maxRecDepth 100000
namespace Go.Proofs.YtphnmccpcjecnaaGreatDoor
section
variable {W : World} {b : Bool} {A : Option Addr} {c m s : Nat}
theorem ten_dq {s : Nat} (hs : s ≤ 1000) : dq (10 ^ s) ≤ 99999 := Nat.le_trans (dq_le (ten_lt s)) (by omega)
set_option maxHeartbeats 2000000 in
theorem rdwhole_h (h : Rn W A c m) (hl : dq m ≤ 99999) (hs : s ≤ 1000) : Calls Tryz.prog 21 #[.agg #[.bool b, .slice A (dq m) c, .int .i64 (s : Int)]] W (RefPost W (m / 10 ^ s)) := by
  obtain ⟨p, hp⟩ : ∃ p, p = 10 ^ s := ⟨_, rfl⟩
  obtain ⟨q, hq⟩ : ∃ q, q = m / p := ⟨_, rfl⟩
  have CT : Hid (∀ W', Calls Tryz.prog 53 #[.int .i64 (s : Int)] W' (RefPost W' p)) := fun W' => by rw [hp]; exact rTen_any (by omega)
  have CD : Hid (∀ W' A c B e, Rn W' A c m → Rn W' B e p → Calls Tryz.prog 64 #[.slice A (dq m) c, .slice B (dq p) e] W' (RDivR W' q (m % p))) := fun W' A c B e h1 h2 => by
    rw [hq]; exact rDiv_any h1 h2 hl (by rw [hp]; exact ten_dq hs) (by rw [hp]; exact Nat.pow_pos (by decide))
  rw [show m / 10 ^ s = q by rw [hq, hp]]
  obtain ⟨r, hr⟩ : ∃ r, r = m % p := ⟨_, rfl⟩
  rw [← hr] at CD
  have HB := Bel.refl W
  clear hl hs hp hq hr
  go_enter Tryz.func21, Tryz.ntmps21
  go_wp2_with fail
  obtain ⟨W1, hW1⟩ : ∃ X, X = W.alloc (.cells #[.bool b, .slice A (dq m) c, .int .i64 (s : Int)] 39) := ⟨_, rfl⟩
  rw [← hW1]
  have HP : At W1 W.heap.size [.bool b, .slice A (dq m) c, .int .i64 (s : Int)] := by rw [hW1]; exact at_new0 _ _ _
  replace HB : Bel W W1 := by rw [hW1]; exact HB.al _
  replace h : Rn W1 A c m := by rw [hW1]; exact h.al _
  clear hW1
  have l0 := HP.lt
  go_region_held3 (fun w' => w'.cell? ⟨W.heap.size, 1, none⟩ = some (.slice A (dq m) c) ∧ w'.cell? ⟨W.heap.size, 2, none⟩ = some (.int .i64 (s : Int)))
    (refine ⟨(?_ : At _ W.heap.size [.bool b, .slice A (dq m) c, .int .i64 (s : Int)]).c1, (?_ : At _ W.heap.size [.bool b, .slice A (dq m) c, .int .i64 (s : Int)]).c2⟩ <;> (repeat (first | with_reducible exact HP | (with_reducible refine At.dr ?_) | (with_reducible refine At.al ?_ _) | (with_reducible refine At.far ?_ (by omega) _))))
    (first
      | (go_at_call 53; (with_reducible refine (CT.out _).mono ?_); rintro e w1 ⟨B, d, rfl, n1, hbk⟩; (with_reducible (replace HB := HB.dr.up hbk; replace HP := HP.dr.up hbk; replace h := h.dr.up hbk)))
      | (go_at_call 64; (with_reducible refine (CD.out _ _ _ _ _ h (Rn.of n1)).mono ?_); rintro e w2 ⟨X, x, Y, y, rfl, nq, nr, hbk⟩; (with_reducible (replace HB := HB.up hbk; replace HP := HP.up hbk)))
      | fail)
  go_wp2
  go_ret
  exact ⟨X, x, rfl, nq, HB.hid⟩
set_option maxHeartbeats 4000000 in
theorem rdrat_h {z : Int} {t : Bool} {r : Rat} (h : Rn W A c z.natAbs) (ht : t = (b && decide (0 < z.natAbs))) (hz : z = zi t z.natAbs) (hl : dq z.natAbs ≤ 99999) (hs : s ≤ 1000) (hr : mkRat z (10 ^ s) = r) :
    Calls Tryz.prog 18 #[.agg #[.bool b, .slice A (dq z.natAbs) c, .int .i64 (s : Int)]] W (RQm W (decide (r.num < 0)) r.num r.den) := by
  obtain ⟨p, hp⟩ : ∃ p, p = 10 ^ s := ⟨_, rfl⟩
  obtain ⟨sr, hsr⟩ : ∃ x, x = decide (r.num < 0) := ⟨_, rfl⟩
  have CT : Hid (∀ W', Calls Tryz.prog 53 #[.int .i64 (s : Int)] W' (RefPost W' p)) := fun W' => by rw [hp]; exact rTen_any (by omega)
  have CZ : Hid (∀ W', Rn W' A c z.natAbs → Calls Tryz.prog 57 #[.bool b, .slice A (dq z.natAbs) c] W' (RZb W' t A (dq z.natAbs) c z.natAbs)) := fun W' g => rzof_h g ht
  have CQ : Hid (∀ W' G g, Rn W' A c z.natAbs → Rn W' G g p → Calls Tryz.prog 56 #[.agg #[.bool t, .slice A (dq z.natAbs) c], .slice G (dq p) g] W' (RQm W' sr r.num r.den)) := fun W' G g g1 g2 => by
    have h2 := rqof_h (r := r) g1 g2 hz (by rw [hp]; exact Nat.pow_pos (by decide)) (by rw [hp]; exact hr) hl (by rw [hp]; exact ten_dq hs)
    rw [hsr]
    exact h2.mono fun _ _ ⟨A, c, A', c', he, n1, n2, hb⟩ => ⟨A, c, A', c', he, ⟨n1, rfl⟩, n2, hb⟩
  rw [← hsr]
  obtain ⟨m, hm⟩ : ∃ m, m = z.natAbs := ⟨_, rfl⟩
  rw [← hm] at h CZ CQ ⊢
  have HB := Bel.refl W
  clear hl hs hp hz hr hsr ht hm
  go_enter Tryz.func18, Tryz.ntmps18
  go_wp2_with fail
  obtain ⟨W1, hW1⟩ : ∃ X, X = (W.alloc (.cells #[.bool b, .slice A (dq m) c, .int .i64 (s : Int)] 39)).alloc (.cells #[.bool false, .slice none 0 0, .slice none 0 0] 51) := ⟨_, rfl⟩
  rw [← hW1]
  have HP : At W1 W.heap.size [.bool b, .slice A (dq m) c, .int .i64 (s : Int)] := by rw [hW1]; exact (at_new0 _ _ _).al _
  have HR : At W1 (W.heap.size + 1) [.bool false, .slice none 0 0, .slice none 0 0] := by rw [hW1]; exact at_new1 _ _ _ _
  replace HB : Bel W W1 := by rw [hW1]; exact (HB.al _).al _
  replace h : Rn W1 A c m := by rw [hW1]; exact (h.al _).al _
  clear hW1
  have l0 := HP.lt
  have l1 := HR.lt
  go_region_held3 (fun w' => w'.cell? ⟨W.heap.size, 0, none⟩ = some (.bool b) ∧ w'.cell? ⟨W.heap.size, 1, none⟩ = some (.slice A (dq m) c) ∧ w'.cell? ⟨W.heap.size, 2, none⟩ = some (.int .i64 (s : Int)))
    (refine ⟨(?_ : At _ W.heap.size [.bool b, .slice A (dq m) c, .int .i64 (s : Int)]).c0, (?_ : At _ W.heap.size [.bool b, .slice A (dq m) c, .int .i64 (s : Int)]).c1, (?_ : At _ W.heap.size [.bool b, .slice A (dq m) c, .int .i64 (s : Int)]).c2⟩ <;> (repeat (first | with_reducible exact HP | (with_reducible refine At.dr ?_) | (with_reducible refine At.al ?_ _) | (with_reducible refine At.far ?_ (by omega) _))))
    (first
      | (go_at_call 57; (with_reducible refine (CZ.out _ h.dr).mono ?_); rintro e w1 ⟨rfl, nz, hbk⟩; (with_reducible (replace HB := HB.dr.up hbk; replace HP := HP.dr.up hbk; replace HR := HR.dr.up hbk; replace h := h.dr.up hbk)))
      | (go_at_call 53; (with_reducible refine (CT.out _).mono ?_); rintro e w2 ⟨B, d, rfl, n1, hbk⟩; (with_reducible (replace HB := HB.up hbk; replace HP := HP.up hbk; replace HR := HR.up hbk; replace h := h.up hbk)))
      | (go_at_call 56; (with_reducible refine (CQ.out _ _ _ h (Rn.of n1)).mono ?_); rintro e w3 ⟨X, i, Y, j, rfl, nq, nr, hbk⟩; (with_reducible (replace HB := HB.up hbk; replace HP := HP.up hbk; replace HR := HR.up hbk)); have hr_0 := HR.c0; have hr_1 := HR.c1; have hr_2 := HR.c2; have hr_l := HR.lt; have hr_f0 := HR.f0; have hr_f1 := HR.f1; have hr_f2 := HR.f2)
      | fail)
  go_wp2_with fail
  refine bodyPost_ret (v := .agg #[.bool sr, .slice X (dq r.num.natAbs) i, .slice Y (dq r.den) j]) (by simp [results, Tryz.results18, go_sem, hr_0, hr_1, hr_2]) rfl ?_
  exact rqm_end nq nr HR HB (by omega)
end
end Go.Proofs.YtphnmccpcjecnaaGreatDoor
