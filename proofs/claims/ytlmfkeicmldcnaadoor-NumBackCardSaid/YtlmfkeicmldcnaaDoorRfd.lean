/- The document's own numbers: Words. Conditions: at most 4000 words. -/
import Derived.Test.YtlmfkeicmldcnaaDoorRfc
import Derived.Deep.RegionHeld3
open Go.RowKit
set_option maxRecDepth 100000
namespace Go.Proofs.YtlmfkeicmldcnaaDoor
theorem dq_le {m k : Nat} (h : m < D4 ^ k) : dq m ≤ k := by
  rcases Nat.eq_zero_or_pos m with rfl | h0
  · unfold dq; rw [digs_zero]; simp
  · have h1 := pow_le_of_digs (b := D4) (by decide) h0
    have h2 : D4 ^ (dq m - 1) < D4 ^ k := Nat.lt_of_le_of_lt h1 h
    have h3 := (Nat.pow_lt_pow_iff_right (a := D4) (by decide)).1 h2
    omega
theorem dq_words {m k : Nat} (h : m < W32 ^ k) : dq m ≤ 3 * k := by
  refine dq_le (Nat.lt_of_lt_of_le h ?_)
  rw [Nat.pow_mul]
  exact Nat.pow_le_pow_left (by decide) k
theorem dq_zero : dq 0 = 0 := by unfold dq; rw [digs_zero]; rfl
theorem u64_of_word {x : Nat} (h : x ≤ 4294967295) : x < 18446744073709551616 := by omega
theorem keepS {wr W W' : World} {a : Addr} {v : Option Value} (hlt : a.block < wr.heap.size) (hb : Hid (Below W.heap.size W W')) (h : W.cell? a = v ∧ Below wr.heap.size wr W) : W'.cell? a = v ∧ Below wr.heap.size wr W' :=
  ⟨(hb.out.cell (Nat.lt_of_lt_of_le hlt h.2.size)).trans h.1, h.2.trans (hb.out.mono h.2.size)⟩
set_option maxHeartbeats 1000000 in
theorem Words_any {A : Option Addr} {ws : List Nat} {n c : Nat} {w : World} (hn : n = ws.length) (h : Rd U32 w w.heap.size A ws) (hg : Good32 ws) (hl : n ≤ 4000) :
    Calls Tryd.prog 27 #[.slice A n c] w (RefPost w (val W32 ws)) := by
  have HN := hide hn
  have HR := hide h
  have HG := hide hg
  have CS := hide (Small_any (n := 4294967296) (w := w) (by omega))
  clear hn h hg
  go_enter Tryd.func27, Tryd.ntmps27
  go_wp2_with (first | (go_at_call 21; go_must (refine CS.out.mono ?_); rintro e w1 ⟨Ab, cb, rfl, hrb, hbb⟩))
  go_loopw [3, 5] (fun av iv wr => ∃ (j c1 : Nat) (A1 : Option Addr), j ≤ n ∧ iv = .int .i64 ((j : Int) - 1) ∧ av = .slice A1 (dq (val W32 (ws.drop j))) c1 ∧ Hid (RN wr wr.heap.size A1 c1 (val W32 (ws.drop j))) ∧ Hid (RN wr wr.heap.size Ab cb 4294967296) ∧ Hid (Below w.heap.size w wr))
    (fun _ iv _ => (intOf iv + 1).toNat)
  case atStart =>
    have hd : ws.drop n = [] := List.drop_of_length_le (by rw [HN.out]; exact Nat.le_refl _)
    exact ⟨n, 0, none, Nat.le_refl _, rfl, by rw [hd]; show _ = Value.slice none (dq 0) 0; rw [dq_zero], by unfold Hid; rw [hd]; exact ⟨by show dq 0 ≤ 0; rw [dq_zero]; exact Nat.le_refl _, by show Rd I64 w1 w1.heap.size none (digs D4 0); rw [digs_zero]; exact Rd.nil⟩, hrb, hbb⟩
  case round =>
    obtain ⟨j, c1, A1, hj, rfl, rfl, hra, hrb2, hbel⟩ := hrel
    by_cases h0 : j = 0
    · subst h0
      go_wp2
      go_ret
      rw [List.drop_zero] at hra
      exact ⟨A1, c1, rfl, hra, hbel⟩
    · obtain ⟨i, rfl⟩ : ∃ i, j = i + 1 := ⟨j - 1, by omega⟩
      have hiw : i < ws.length := by rw [← HN.out]; omega
      obtain ⟨ad, rfl, hab, hcx⟩ := (HR.out.below hbel.out).at_ hiw
      obtain ⟨x, hx⟩ : ∃ x, x = ws[i] := ⟨_, rfl⟩
      rw [← hx] at hcx
      unfold U32 at hcx
      have hxl : x ≤ 4294967295 := word_le (by rw [hx]; exact HG.out _ (List.getElem_mem _))
      obtain ⟨v, hv⟩ : ∃ v, v = val W32 (ws.drop (i + 1)) := ⟨_, rfl⟩
      rw [← hv] at hra ⊢
      have HV : Hid (val W32 (ws.drop i) = v * 4294967296 + x) := by
        unfold Hid
        rw [List.drop_eq_getElem_cons hiw, ← hx, hv]
        show x + W32 * _ = _
        rw [W32_eq]; omega
      have hvl : v < W32 ^ n := by
        have h1 := val_lt (ws.drop (i + 1)) (good_drop HG.out (i + 1))
        rw [← hv] at h1
        refine Nat.lt_of_lt_of_le h1 (Nat.pow_le_pow_right (by decide) ?_)
        rw [List.length_drop]; have := HN.out; omega
      have hq1 : dq v ≤ 100000 := by have := dq_words hvl; omega
      have hq2 : dq 4294967296 ≤ 100000 := by have := dq_u64 (n := 4294967296) (by omega); omega
      have hq3 : dq (v * 4294967296) ≤ 100000 := by
        have h1 : v * 4294967296 < W32 ^ (n + 1) := by
          rw [Nat.pow_succ]; exact Nat.mul_lt_mul_of_pos_right hvl (by decide)
        have := dq_words h1; omega
      have hq4 : dq x ≤ 100000 := by have := dq_u64 (n := x) (by omega); omega
      have HQ := hide (And.intro hq1 (And.intro hq2 (And.intro hq3 hq4)))
      have CM := hide (fun (W : World) (hb : Below wr.heap.size wr W) => rMul_any ((hra.out.below hb).more hb.size) ((hrb2.out.below hb).more hb.size) hq1 hq2)
      have CX := hide (fun (W : World) => Small_any (w := W) (u64_of_word hxl))
      clear hvl hx hv hq1 hq2 hq3 hq4
      have hib : (i : Int) < (n : Int) := by omega
      have hi0 : (0 : Int) ≤ (i : Int) := by omega
      have hb0 := Below.refl wr.heap.size wr
      go_wp2_with fail
      have e1 : IntKind.u64.wrap (x : Int) = (x : Int) := u64_nat (by omega)
      have hablt : (ad.add i).block < wr.heap.size := by rw [block_add]; exact Nat.lt_of_lt_of_le hab hbel.out.size
      go_region_held3 (fun w' => w'.cell? (ad.add i) = some (.int .u32 (x : Int)) ∧ Below wr.heap.size wr w') (first | exact ⟨hcx, (Below.refl _ _).drew⟩ | exact keepS hablt hb2 (by assumption) | exact keepS hablt hb3 (by assumption) | exact keepS hablt hb5 (by assumption)) (first | (go_at_call 34; refine (CM.out _ (And.right (by assumption))).mono ?_; rintro e w' ⟨A2, c2, rfl, hr2, hb2⟩) | (go_at_call 21; (with_reducible refine (CX.out _).mono ?_); rintro e w' ⟨A3, c3, rfl, hr3, hb3⟩; have hr4 := hide ((hr2.out.below hb3.out).more hb3.out.size)) | (go_at_call 32; (with_reducible refine (rAdd_any hr4.out hr3.out HQ.out.2.2.1 HQ.out.2.2.2).mono ?_); rintro e w' ⟨A4, c4, rfl, hr5, hb5⟩))
      clear e1
      have hb6 : Below wr.heap.size wr w' := by
        refine Below.trans ?_ (hb5.out.mono ?_)
        · exact ((Below.refl wr.heap.size wr).drew.trans (hb2.out.mono (Nat.le_refl _))).trans (hb3.out.mono hb2.out.size)
        · exact Nat.le_trans hb2.out.size hb3.out.size
      have HB6 := hide hb6
      clear hb6 hb0
      go_wp2
      go_roundw
      case rel => exact ⟨i, c4, A4, by omega, rfl, by rw [HV.out], by unfold Hid; rw [HV.out]; exact hr5.out, (hrb2.out.below HB6.out).more HB6.out.size, hbel.out.trans (HB6.out.mono hbel.out.size)⟩
      case measure => simp [intOf]
end Go.Proofs.YtlmfkeicmldcnaaDoor
