/- The law UnitSays. Conditions: texts and lists that fit. -/
import Derived.Test.YthdpojkeceoiiaaGreatDoorGJyc34
import Derived.Test.YthdpojkeceoiiaaGreatDoorGJyc28
import Derived.Test.YthdpojkeceoiiaaGreatDoorGJyc26
import Derived.Deep.RegionHeld
open Go.RowKit
set_option maxRecDepth 100000
namespace Go.Proofs.YthdpojkeceoiiaaGreatDoor
/-- Strings that fit. -/
def FitQ (q : QL) : Prop := (∀ a ∈ q.1, a.1.size ≤ 2000000 ∧ a.2.1.size ≤ 2000000) ∧ (∀ a ∈ q.2.1, a.1.size ≤ 2000000 ∧ a.2.1.size ≤ 2000000) ∧ Good32 q.2.2
theorem small_parts {qs : List QL} (h : smallU qs = true) : qs.length ≤ 8 ∧ ∀ q ∈ qs, q.1.length ≤ 12 ∧ q.2.1.length ≤ 12 ∧ q.2.2.length ≤ 6 := by
  unfold smallU at h
  simp only [Bool.and_eq_true, decide_eq_true_eq] at h
  refine ⟨h.1, fun q hq => ?_⟩
  have := List.all_eq_true.1 h.2 q hq
  unfold smallQ at this
  simp only [Bool.and_eq_true, decide_eq_true_eq] at this
  exact this
theorem nuT_six {ws : List Nat} (hw : Good32 ws) (hl : ws.length ≤ 6) : (nuT (val W32 ws)).size ≤ 60 := by
  have h1 : val W32 ws < W32 ^ 6 := Nat.lt_of_lt_of_le (val_lt _ hw) (Nat.pow_le_pow_right (by decide) hl)
  have := dt_le (m := val W32 ws) (k := 60) (Nat.lt_trans h1 (by decide)) (by decide)
  rw [Lib.size_eq]
  exact this
theorem fit_small {qs : List QL} (h : smallU qs = true) (hf : ∀ q ∈ qs, FitQ q) : (∀ q ∈ qs, FitP (toP q) ∧ (partS (toP q)).size ≤ 26 * 4000011) := by
  obtain ⟨_, h2⟩ := small_parts h
  intro q hq
  obtain ⟨g1, g2, g3⟩ := h2 q hq
  obtain ⟨f1, f2, f3⟩ := hf q hq
  have s1 : SmallL q.1 4000000 := fun a ha => by have := f1 a ha; omega
  have s2 : SmallL q.2.1 4000000 := fun a ha => by have := f2 a ha; omega
  have ht : (toP q).2.2.size ≤ 4000000 + 10 := by
    have := nuT_six f3 g3
    show (nuT (val W32 q.2.2)).size ≤ _
    omega
  have hs := partS_small (p := toP q) (m := 4000000) (k := 24) s1 s2 ht (by show q.1.length + q.2.1.length ≤ 24; omega)
  refine ⟨⟨⟨?_, f1⟩, ⟨?_, f2⟩, by omega⟩, by rw [partS_eq]; omega⟩
  · show q.1.length ≤ 1000; omega
  · show q.2.1.length ≤ 1000; omega
theorem unit_small {qs : List QL} (h : smallU qs = true) (hf : ∀ q ∈ qs, FitQ q) : (unitS (qs.map toP)).size ≤ 140737488355328 := by
  have h1 := unitN_small (ps := qs.map toP) (m := 26 * 4000011) (fun p hp => by
    obtain ⟨q, hq, rfl⟩ := List.mem_map.1 hp
    exact (fit_small h hf q hq).2) (qs.map toP).length
  show (unitN (qs.map toP) (qs.map toP).length).size ≤ _
  have h2 := (small_parts h).1
  rw [List.length_map] at h1 ⊢
  have h3 : qs.length * (26 * 4000011 + 5) ≤ 8 * (26 * 4000011 + 5) := Nat.mul_le_mul_right _ h2
  omega
/-- What a text comes to: the error's number, the parts. -/
abbrev PUn (s : ByteArray) (n : Nat) (er : Int) (qs : List QL) : Prop := ∀ (W : World) (A B : Option Addr), Ss W A uN → Ss W B uP → Calls Tryz.prog 8 #[.agg #[.slice A 3 3, .slice B 2 2], .string s] W (fun e w' => ∃ A c, e = .returned (.tuple #[.agg #[.slice A n c], .int .i64 er]) ∧ Qs w' A qs ∧ Bel W w')
abbrev RUn (s : ByteArray) (n : Nat) (er : Int) (r : List PL) : Prop := ∀ (W : World) (A B : Option Addr), Ss W A uN → Ss W B uP → Calls Tryz.prog 16 #[.agg #[.slice A 3 3, .slice B 2 2], .string s] W (fun e w' => ∃ R c, e = .returned (.tuple #[.slice R n c, .int .i64 er]) ∧ Ps w' R r ∧ Bel W w')
abbrev OUn (n : Nat) (qs : List QL) (r : List PL) : Prop := ∀ (W : World) (A : Option Addr) (c : Nat), Qs W A qs → Calls Tryz.prog 19 #[.agg #[.slice A n c]] W (fun e w' => ∃ R c', e = .returned (.slice R n c') ∧ Ps w' R r ∧ Bel W w')
theorem oUn_of {n : Nat} {qs : List QL} {r : List PL} (hr : qs.map toP = r) (hn : n = qs.length) (hl : n ≤ 1000) (hf : ∀ q ∈ qs, LenQ q) : OUn n qs r := fun W A c h => by
  refine (partsOf_any (c := c) h hn hl hf).mono fun e w' h9 => ?_
  rw [hr] at h9
  obtain ⟨R, c', z, e1, e2, e3, e4⟩ := h9
  refine ⟨R, c', ?_, e3, e4⟩
  rw [e2, e1.out, ← hr, List.length_map, hn]
theorem uP_sizes : ∀ x ∈ uP, x.size ≤ 2000000 := by decide +kernel
/-- A text's error number and parts. -/
def erOf (r : Except Int (List PL)) : Int := match r with
  | .error v => v
  | .ok _ => 0
def psOf (r : Except Int (List PL)) : List PL := match r with
  | .error _ => []
  | .ok p => p
theorem pUn_of {s : ByteArray} {r : Except Int (List PL)} (hD : unitD uN uP s = r) : PUn s (psOf r).length (erOf r) ((psOf r).map ofP) := fun W A B h h' => by
  have h9 := uparse_any (s := s) (c := 3) (d := 2) h rfl (by decide) h' rfl (by decide)
  rw [hD] at h9
  refine h9.mono fun e w' h8 => ?_
  cases r with
  | error v => exact ⟨none, 0, h8.1, Qs.nil, h8.2⟩
  | ok p =>
    obtain ⟨g, c, e1, _, _, e4, e5⟩ := h8
    exact ⟨some ⟨g, 0, none⟩, c, e1, e4, e5⟩
theorem rUn_of {s : ByteArray} {r : Except Int (List PL)} (hD : unitD uN uP s = r) : RUn s (psOf r).length (erOf r) (psOf r) := fun W A B h h' => by
  have h9 := runitD_any (s := s) (c := 3) (d := 2) h rfl (by decide) h' rfl (by decide) uP_sizes
  rw [hD] at h9
  refine h9.mono fun e w' h8 => ?_
  cases r with
  | error v => exact ⟨none, 0, h8.1, (fun h => absurd h (by simp [psOf])), h8.2⟩
  | ok p =>
    obtain ⟨R, c, z, e1, e2, e4, e5⟩ := h8
    exact ⟨R, c, by rw [e2, e1.out]; rfl, e4, e5⟩
theorem psOf_facts {s : ByteArray} {r : Except Int (List PL)} (hD : unitD uN uP s = r) : ((psOf r).map ofP).map toP = psOf r ∧ (∀ q ∈ (psOf r).map ofP, LenQ q) ∧ LenP (psOf r) ∧ (psOf r).length ≤ 4 ∧ (erOf r = 0 ∨ ((erOf r = 11 ∨ erOf r = 2) ∧ psOf r = [])) := by
  cases r with
  | error v => exact ⟨rfl, (fun q hq => by cases hq), (fun p hp => by cases hp), by simp [psOf], .inr ⟨unitD_err hD, rfl⟩⟩
  | ok p =>
    obtain ⟨k1, k2, k3, k4⟩ := unitD_ok hD
    have hok := partsL_ok k3
    refine ⟨map_back (fun p hp => (hok p hp).1), fun q hq => ?_, fun p hp => ?_, k4, .inl rfl⟩
    · obtain ⟨p, hp, rfl⟩ := List.mem_map.1 hq
      have := (hok p hp).2
      exact ⟨by show p.1.length ≤ _; omega, by show p.2.1.length ≤ _; omega⟩
    · have := (hok p hp).2; omega
section
variable {A : Option Addr} {z c : Nat} {qs : List QL} {s : ByteArray} {w : World}
set_option maxHeartbeats 4000000 in
theorem usays_aside {ls : List (Nat × Nat × Nat)} (h : LQs w A ls) (hz : z = ls.length) (hzl : z ≤ 140737488355328) (hf : ∀ q ∈ ls, q.1 ≤ 140737488355328 ∧ q.2.1 ≤ 140737488355328 ∧ q.2.2 ≤ 140737488355328) (ha : 300 < s.size ∨ smallLs ls = false) : Calls Tryz.prog 4 #[.string s, .agg #[.slice A z c]] w (RetB w true) := by
  obtain ⟨W1, hW1⟩ : ∃ X, X = w.alloc (.cells #[.slice A z c] 26) := ⟨_, rfl⟩
  have HU : At W1 w.heap.size [.slice A z c] := by rw [hW1]; exact at_new0 _ _ _
  have HB : Bel w W1 := by rw [hW1]; exact (Bel.refl w).al _
  have CA : Hid (∀ W : World, Calls Tryz.prog 7 #[] W (RetB W true)) := awake10_h
  have HW := khide hW1
  by_cases h1 : 300 < s.size
  · have d1 : decide ((300 : Int) < (s.size : Int)) = true := decide_eq_true (by omega)
    clear hW1 h hz hf ha h1
    go_enter Tryz.func4, Tryz.ntmps4
    go_upto_region 1 with fail
    rw [← HW.out]
    go_wp2_with (first | (go_at_call 7; (with_reducible refine (CA.out _).mono ?_); rintro e w1 ⟨rfl, hb⟩; (replace HB := HB.up hb.hid)) | fail)
    go_ret
    exact ⟨rfl, HB⟩
  · have d1 : decide ((300 : Int) < (s.size : Int)) = false := decide_eq_false (by omega)
    have hs : smallLs ls = false := ha.resolve_left h1
    have CL : Hid (∀ W, Bel w W → Calls Tryz.prog 15 #[.agg #[.slice A z c]] W (RetB W false)) := fun W hb => hs ▸ smallL_any (h.up hb.hid) hz hzl hf
    clear hW1 h hz hf ha h1 hs
    go_enter Tryz.func4, Tryz.ntmps4
    go_upto_region 1 with fail
    rw [← HW.out]
    have hu_0 := HU.c0; have hu_l := HU.lt
    go_wp2_with (first | (go_at_call 7; (with_reducible refine (CA.out _).mono ?_); rintro e w1 ⟨rfl, hb⟩; (replace HB := HB.up hb.hid); clear hu_0 hu_l; replace HU := HU.up hb.hid; have hu_0 := HU.c0; have hu_l := HU.lt) | (go_at_call 15; (with_reducible refine (CL.out _ HB).mono ?_); rintro e w2 ⟨rfl, hb⟩; (replace HB := HB.up hb.hid)) | fail)
    go_ret
    exact ⟨rfl, HB⟩
set_option maxHeartbeats 16000000 in
theorem usays_main (h : Qs w A qs) (hz : z = qs.length) (hsz : ¬ 300 < s.size) (hsm : smallU qs = true) (hf : ∀ q ∈ qs, FitQ q) : Calls Tryz.prog 4 #[.string s, .agg #[.slice A z c]] w (RetB w true) := by
  obtain ⟨W1, hW1⟩ : ∃ X, X = w.alloc (.cells #[.slice A z c] 26) := ⟨_, rfl⟩
  have HU : At W1 w.heap.size [.slice A z c] := by rw [hW1]; exact at_new0 _ _ _
  have HB : Bel w W1 := by rw [hW1]; exact (Bel.refl w).al _
  have HW := khide hW1
  have CA : Hid (∀ W : World, Calls Tryz.prog 7 #[] W (RetB W true)) := awake10_h
  have CM : Hid (∀ W : World, Calls Tryz.prog 9 #[] W (SomeU W)) := some10_h
  have CK : Hid (∀ (W : World) (A B : Option Addr), Calls Tryz.prog 17 #[.agg #[.slice A 3 3, .slice B 2 2]] W fun e w' => e = .returned (.agg #[.slice A 3 3, .slice B 2 2]) ∧ Bel W w') := fun W A B => knownOf10_any A B 3 3 2 2 W
  obtain ⟨hz8, hz12⟩ := small_parts hsm
  have hlq : ∀ q ∈ qs, LenQ q := fun q hq => by have := hz12 q hq; exact ⟨by omega, by omega⟩
  have CL : Hid (∀ W, Bel w W → Calls Tryz.prog 15 #[.agg #[.slice A z c]] W (RetB W true)) := fun W hb => hsm ▸ small_any (h.up hb.hid) hz (by omega) (fun q hq => by have := hz12 q hq; omega)
  obtain ⟨r1, hr1⟩ : ∃ r, unitD uN uP s = r := ⟨_, rfl⟩
  obtain ⟨m1, m2, m3, m4, m5⟩ := psOf_facts hr1
  have CP : Hid (PUn s (psOf r1).length (erOf r1) ((psOf r1).map ofP)) := pUn_of hr1
  have CR : Hid (RUn s (psOf r1).length (erOf r1) (psOf r1)) := rUn_of hr1
  have CO : Hid (OUn (psOf r1).length ((psOf r1).map ofP) (psOf r1)) := oUn_of m1 (by rw [List.length_map]) (by omega) m2
  have CE : Hid (∀ (W : World) (R R' : Option Addr) (c c' : Nat), Ps W R (psOf r1) → Ps W R' (psOf r1) → Calls Tryz.prog 18 #[.slice R (psOf r1).length c, .slice R' (psOf r1).length c'] W (RetB W true)) := fun W R R' c c' k1 k2 =>
    (sameParts_any k1 k2 rfl rfl (by omega) (by omega) m3 m3).mono fun e w' h9 => ⟨by rw [h9.1]; exact congrArg _ (congrArg _ (decide_eq_true rfl)), bel_drewN (h9.2.choose_spec)⟩
  have hlp : LenP (qs.map toP) := fun p hp => by
    obtain ⟨q, hq, rfl⟩ := List.mem_map.1 hp
    exact hlq q hq
  have CO2 : Hid (OUn z qs (qs.map toP)) := oUn_of rfl hz (by omega) hlq
  have hft := fit_small hsm hf
  obtain ⟨t, ht⟩ : ∃ t, unitS (qs.map toP) = t := ⟨_, rfl⟩
  have CS : Hid (∀ W, Bel w W → Calls Tryz.prog 11 #[.agg #[.slice A z c]] W (StrR W t)) := fun W hb => ht ▸ ushow_any (h.up hb.hid) hz (by omega) (fun q hq => (hft q hq).1) (unit_small hsm hf)
  have CD : Hid (∀ (W : World) (R : Option Addr) (c' : Nat), Ps W R (qs.map toP) → Calls Tryz.prog 20 #[.slice R z c'] W (StrR W t)) := fun W R c' hp => ht ▸ runit_any hp (by rw [List.length_map]; exact hz) (by omega) (fun p hp0 => by
    obtain ⟨q, hq, rfl⟩ := List.mem_map.1 hp0
    exact (hft q hq).1)
  obtain ⟨r2, hr2⟩ : ∃ r, unitD uN uP t = r := ⟨_, rfl⟩
  obtain ⟨_, _, n3, n4, n5⟩ := psOf_facts hr2
  have CR2 : Hid (RUn t (psOf r2).length (erOf r2) (psOf r2)) := rUn_of hr2
  obtain ⟨x2, hx2⟩ : ∃ x, sameP (psOf r2) (qs.map toP) = x := ⟨_, rfl⟩
  have CE2 : Hid (∀ (W : World) (R R' : Option Addr) (c c' : Nat), Ps W R (psOf r2) → Ps W R' (qs.map toP) → Calls Tryz.prog 18 #[.slice R (psOf r2).length c, .slice R' z c'] W (RetB W x2)) := fun W R R' c c' k1 k2 =>
    hx2 ▸ (sameParts_any k1 k2 rfl (by rw [List.length_map]; exact hz) (by omega) (by omega) n3 hlp).mono fun e w' h9 => ⟨h9.1, bel_drewN (h9.2.choose_spec)⟩
  have CN : Hid (∀ (W : World) (B : Option Addr) (d : Nat) (q : QL), q ∈ qs → Rd U32 W W.heap.size B q.2.2 → Calls Tryz.prog 21 #[.agg #[.slice B q.2.2.length d]] W (RetB W (goodB q.2.2))) := fun W B d q hq hr => (Good_any (ws := q.2.2) rfl hr (by have := hz12 q hq; omega)).mono fun e w' h => ⟨h.1, h.2⟩
  have hfa : ∀ q ∈ qs, FitA q.1 ∧ FitA q.2.1 := fun q hq => ⟨⟨(hlq q hq).1, fun a ha => by have := (hf q hq).1 a ha; omega⟩, ⟨(hlq q hq).2, fun a ha => by have := (hf q hq).2.1 a ha; omega⟩⟩
  obtain ⟨gd, hgd⟩ : ∃ g, goodU uN uP qs = g := ⟨_, rfl⟩
  have CG : Hid (∀ (W : World) (A' B' : Option Addr), Bel w W → Ss W A' uN → Ss W B' uP → Calls Tryz.prog 13 #[.agg #[.slice A' 3 3, .slice B' 2 2], .agg #[.slice A z c]] W (RetB W gd)) := fun W A' B' hb k1 k2 => hgd ▸ ugood_any k1 rfl (by decide) k2 rfl (by decide) (h.up hb.hid) hz hfa (fun q hq => (hf q hq).2.2)
  have HG : Hid (gd = (((erOf r2 == 0) && x2) && goodsB qs)) := by
    unfold Hid
    rw [← hgd, good_doc (fun q hq => (hf q hq).2.2), ht, hr2, ← hx2]
    cases r2 with
    | error v =>
      have hv := unitD_err hr2
      have : (erOf (.error v) == 0) = false := by
        show (v == 0) = false
        rcases hv with rfl | rfl <;> rfl
      rw [this]; rfl
    | ok cc => rfl
  have d1 : decide ((300 : Int) < (s.size : Int)) = false := decide_eq_false (by omega)
  have st : (t.toList == t.toList) = true := by simp
  have HZ := khide hz
  have hz9 : z ≤ 8 := by rw [hz]; exact hz8
  clear hz8
  have HQ := khide h
  obtain ⟨own, hown⟩ : ∃ o, qs.map toP = o := ⟨_, rfl⟩
  rw [hown] at CO2 CD CE2
  obtain ⟨q1, hq1⟩ : ∃ q, (psOf r1).map ofP = q := ⟨_, rfl⟩
  rw [hq1] at CP CO
  obtain ⟨p1, hp1⟩ : ∃ q, psOf r1 = q := ⟨_, rfl⟩
  obtain ⟨p2, hp2⟩ : ∃ q, psOf r2 = q := ⟨_, rfl⟩
  obtain ⟨e1, he1⟩ : ∃ q, erOf r1 = q := ⟨_, rfl⟩
  obtain ⟨e2, he2⟩ : ∃ q, erOf r2 = q := ⟨_, rfl⟩
  rw [hp1] at CP CR CO CE m5
  rw [hp2] at CR2 CE2 n5
  rw [he1] at CP CR m5
  rw [he2] at CR2 HG n5
  obtain ⟨l1, hl1⟩ : ∃ q, p1.length = q := ⟨_, rfl⟩
  obtain ⟨l2, hl2⟩ : ∃ q, p2.length = q := ⟨_, rfl⟩
  have M5 : Hid (e1 = 0 ∨ ((e1 = 11 ∨ e1 = 2) ∧ l1 = 0)) := by
    rcases m5 with k | ⟨k, k'⟩
    · exact .inl k
    · exact .inr ⟨k, by rw [← hl1, k']; rfl⟩
  have N5 : Hid (e2 = 0 ∨ (e2 = 11 ∨ e2 = 2)) := by
    rcases n5 with k | ⟨k, _⟩
    · exact .inl k
    · exact .inr k
  unfold PUn at CP
  unfold RUn at CR CR2
  unfold OUn at CO
  rw [hl1] at CP CR CO CE
  rw [hl2] at CR2 CE2
  clear hW1 h hz hsz hsm hf hz12 hlq hr1 m1 m2 m3 m4 m5 hlp hft ht hr2 n3 n4 n5 hx2 hfa hgd hown hq1 hp1 hp2 he1 he2 hl1 hl2
  go_enter Tryz.func4, Tryz.ntmps4
  go_upto_region 1 with fail
  rw [← HW.out]
  have hu_0 := HU.c0; have hu_l := HU.lt
  go_upto_region 6 with (first | (go_at_call 7; (with_reducible refine (CA.out _).mono ?_); rintro e wx ⟨rfl, hb⟩; replace HB := HB.up (Bel.hid hb); clear hu_0 hu_l; replace HU := HU.up (Bel.hid hb); have hu_0 := HU.c0; have hu_l := HU.lt) | (go_at_call 15; (with_reducible refine (CL.out _ HB).mono ?_); rintro e wx ⟨rfl, hb⟩; replace HB := HB.up (Bel.hid hb); clear hu_0 hu_l; replace HU := HU.up (Bel.hid hb); have hu_0 := HU.c0; have hu_l := HU.lt) | (go_at_call 9; (with_reducible refine (CM.out _).mono ?_); rintro e wx ⟨A3, B3, rfl, HN, HP, hb⟩; replace HB := HB.up (Bel.hid hb); clear hu_0 hu_l; replace HU := HU.up (Bel.hid hb); have hu_0 := HU.c0; have hu_l := HU.lt) | (go_at_call 8; (with_reducible refine (CP.out _ _ _ HN HP).mono ?_); rintro e wx ⟨A5, c5, rfl, HQ1, hb⟩; replace HB := HB.up (Bel.hid hb); clear hu_0 hu_l; replace HU := HU.up (Bel.hid hb); have hu_0 := HU.c0; have hu_l := HU.lt) | fail)
  refine kwp_named ?_
  intro W4 hW4
  have HV : At W4 wx.heap.size [.slice A5 l1 c5] := by rw [hW4]; exact at_new0 _ _ _
  replace HU : At W4 w.heap.size [.slice A z c] := by rw [hW4]; exact HU.al _
  replace HQ1 : Qs W4 A5 q1 := by rw [hW4]; exact HQ1.al _
  replace HB : Bel w W4 := by rw [hW4]; exact HB.al _
  obtain ⟨pv, hpv⟩ : ∃ p, p = wx.heap.size := ⟨_, rfl⟩
  rw [← hpv] at HV ⊢
  clear hW4 hpv hu_0 hu_l HN HP
  have hu_0 := HU.c0; have hu_l := HU.lt
  go_upto_region 7 with (first | (go_at_call 9; (with_reducible refine (CM.out _).mono ?_); rintro e wx ⟨A3, B3, rfl, HN, HP, hb⟩; replace HB := HB.up (Bel.hid hb); replace HV := HV.up (Bel.hid hb); replace HQ1 := HQ1.up (Bel.hid hb); clear hu_0 hu_l; replace HU := HU.up (Bel.hid hb); have hu_0 := HU.c0; have hu_l := HU.lt) | (go_at_call 17; (with_reducible refine (CK.out _ _ _).mono ?_); rintro e wx ⟨rfl, hb⟩; replace HB := HB.up (Bel.hid hb); replace HV := HV.up (Bel.hid hb); replace HQ1 := HQ1.up (Bel.hid hb); replace HN := HN.up (Bel.hid hb); replace HP := HP.up (Bel.hid hb); clear hu_0 hu_l; replace HU := HU.up (Bel.hid hb); have hu_0 := HU.c0; have hu_l := HU.lt) | (go_at_call 16; (with_reducible refine (CR.out _ _ _ HN HP).mono ?_); rintro e wx ⟨R6, c6, rfl, HR6, hb⟩; replace HB := HB.up (Bel.hid hb); replace HV := HV.up (Bel.hid hb); replace HQ1 := HQ1.up (Bel.hid hb); clear hu_0 hu_l; replace HU := HU.up (Bel.hid hb); have hu_0 := HU.c0; have hu_l := HU.lt) | fail)
  have hv_0 := HV.c0; have hv_l := HV.lt
  go_cut [57] from 38 to 57 (fun v w' => v = .bool false ∧ Bel w w' ∧ At w' w.heap.size [.slice A z c])
  case first =>
    rcases M5.out with k | ⟨k, k'⟩
    · subst k
      go_wp2_with (first | (go_at_call 19; (with_reducible refine (CO.out _ _ _ HQ1).mono ?_); rintro e wx ⟨R7, c7, rfl, HR7, hb⟩; replace HB := HB.up (Bel.hid hb); replace HR6 := HR6.up (Bel.hid hb); clear hu_0 hu_l; replace HU := HU.up (Bel.hid hb); have hu_0 := HU.c0; have hu_l := HU.lt; clear hv_0 hv_l; replace HV := HV.up (Bel.hid hb); have hv_0 := HV.c0; have hv_l := HV.lt) | (go_at_call 18; (with_reducible refine (CE.out _ _ _ _ _ HR7 HR6).mono ?_); rintro e wx ⟨rfl, hb⟩; replace HB := HB.up (Bel.hid hb); clear hu_0 hu_l; replace HU := HU.up (Bel.hid hb); have hu_0 := HU.c0; have hu_l := HU.lt; clear hv_0 hv_l; replace HV := HV.up (Bel.hid hb); have hv_0 := HV.c0; have hv_l := HV.lt) | fail)
      go_meet
      case rel => exact ⟨rfl, HB, HU⟩
    · subst k'
      have q0 : (e1 == 0) = false := by rcases k with rfl | rfl <;> rfl
      have q1 : (e1 != 0) = true := by rcases k with rfl | rfl <;> rfl
      clear k
      go_wp2_with (first | (go_at_call 19; (with_reducible refine (CO.out _ _ _ HQ1).mono ?_); rintro e wx ⟨R7, c7, rfl, HR7, hb⟩; replace HB := HB.up (Bel.hid hb); replace HR6 := HR6.up (Bel.hid hb); clear hu_0 hu_l; replace HU := HU.up (Bel.hid hb); have hu_0 := HU.c0; have hu_l := HU.lt; clear hv_0 hv_l; replace HV := HV.up (Bel.hid hb); have hv_0 := HV.c0; have hv_l := HV.lt) | (go_at_call 18; (with_reducible refine (CE.out _ _ _ _ _ HR7 HR6).mono ?_); rintro e wx ⟨rfl, hb⟩; replace HB := HB.up (Bel.hid hb); clear hu_0 hu_l; replace HU := HU.up (Bel.hid hb); have hu_0 := HU.c0; have hu_l := HU.lt; clear hv_0 hv_l; replace HV := HV.up (Bel.hid hb); have hv_0 := HV.c0; have hv_l := HV.lt) | fail)
      go_meet
      case rel => exact ⟨rfl, HB, HU⟩
  case rest =>
  obtain ⟨rfl, HB, HU⟩ := hcut
  clear hu_0 hu_l hv_0 hv_l HV HQ1 HR6
  have hu_0 := HU.c0; have hu_l := HU.lt
  go_upto_region 14 with (first | (go_at_call 19; (with_reducible refine (CO2.out _ _ _ (HQ.out.up HB.hid)).mono ?_); rintro e wx ⟨R9, c9, rfl, HR9, hb⟩; replace HB := HB.up (Bel.hid hb); clear hu_0 hu_l; replace HU := HU.up (Bel.hid hb); have hu_0 := HU.c0; have hu_l := HU.lt) | (go_at_call 11; (with_reducible refine (CS.out _ HB).mono ?_); rintro e wx ⟨rfl, hb⟩; replace HB := HB.up hb; replace HR9 := HR9.up hb; clear hu_0 hu_l; replace HU := HU.up hb; have hu_0 := HU.c0; have hu_l := HU.lt) | (go_at_call 20; (with_reducible refine (CD.out _ _ _ HR9).mono ?_); rintro e wx ⟨rfl, hb⟩; replace HB := HB.up hb; replace HR9 := HR9.up hb; clear hu_0 hu_l; replace HU := HU.up hb; have hu_0 := HU.c0; have hu_l := HU.lt) | (go_at_call 9; (with_reducible refine (CM.out _).mono ?_); rintro e wx ⟨A3, B3, rfl, HN, HP, hb⟩; replace HB := HB.up (Bel.hid hb); replace HR9 := HR9.up (Bel.hid hb); clear hu_0 hu_l; replace HU := HU.up (Bel.hid hb); have hu_0 := HU.c0; have hu_l := HU.lt) | (go_at_call 17; (with_reducible refine (CK.out _ _ _).mono ?_); rintro e wx ⟨rfl, hb⟩; replace HB := HB.up (Bel.hid hb); replace HR9 := HR9.up (Bel.hid hb); replace HN := HN.up (Bel.hid hb); replace HP := HP.up (Bel.hid hb); clear hu_0 hu_l; replace HU := HU.up (Bel.hid hb); have hu_0 := HU.c0; have hu_l := HU.lt) | (go_at_call 16; (with_reducible refine (CR2.out _ _ _ HN HP).mono ?_); rintro e wx ⟨R8, c8, rfl, HR8, hb⟩; replace HB := HB.up (Bel.hid hb); replace HR9 := HR9.up (Bel.hid hb); clear hu_0 hu_l; replace HU := HU.up (Bel.hid hb); have hu_0 := HU.c0; have hu_l := HU.lt) | fail)
  obtain ⟨g0, hg0⟩ : ∃ g, ((e2 == 0) && x2) = g := ⟨_, rfl⟩
  rw [hg0] at HG
  go_cut [13] from 73 to 79 (fun v w' => v = .bool g0 ∧ Bel w w' ∧ At w' w.heap.size [.slice A z c])
  case first =>
    rcases N5.out with k | k
    · subst k
      have hg1 : x2 = g0 := by rw [← hg0]; rfl
      subst hg1
      clear hg0
      go_wp2_with (first | (go_at_call 18; (with_reducible refine (CE2.out _ _ _ _ _ HR8 HR9).mono ?_); rintro e wx ⟨rfl, hb⟩; replace HB := HB.up (Bel.hid hb); clear hu_0 hu_l; replace HU := HU.up (Bel.hid hb); have hu_0 := HU.c0; have hu_l := HU.lt) | fail)
      go_meet
      case rel => exact ⟨rfl, HB, HU⟩
    · have q0 : (e2 == 0) = false := by rcases k with rfl | rfl <;> rfl
      have q1 : (e2 != 0) = true := by rcases k with rfl | rfl <;> rfl
      have hg1 : g0 = false := by rw [← hg0, q0]; rfl
      subst hg1
      clear k hg0
      go_wp2_with fail
      go_meet
      case rel => exact ⟨rfl, HB, HU⟩
  case rest =>
  obtain ⟨rfl, HB, HU⟩ := hcut
  clear hu_0 hu_l hg0 HR8 HR9
  go_wp2_with fail
  go_loopw [13, 14] (fun gv iv wr => ∃ (k : Nat) (b : Bool), k ≤ z ∧ iv = .int .i64 (k : Int) ∧ gv = .bool b ∧ Hid (b = (g0 && goodsB (qs.take k))) ∧ Hid (Bel w wr) ∧ Hid (At wr w.heap.size [.slice A z c])) (fun _ iv _ => z - (intOf iv).toNat)
  case atStart => exact ⟨0, g0, Nat.zero_le _, rfl, rfl, (Bool.and_true g0).symm, HB, HU⟩
  case round =>
    clear HB HU
    obtain ⟨k, b, hk, rfl, rfl, HT, HB, HU⟩ := hrel
    have HU' := HU.out
    have hu_0 := HU'.c0; have hu_l := HU'.lt
    by_cases hlt : k < z
    · obtain ⟨q, hq⟩ : ∃ q, qs[k]? = some q := ⟨qs[k]'(by rw [← HZ.out]; exact hlt), List.getElem?_eq_getElem _⟩
      obtain ⟨ad, v1, v2, v3, rfl, had, a0, a1, a2, HQQ⟩ := (HQ.out.up HB.out.hid).at_ hq
      have HT2 : Hid ((g0 && goodsB (qs.take (k + 1))) = (b && goodB q.2.2)) := by
        unfold Hid goodsB
        rw [all_takeQ hq, HT.out, Bool.and_assoc]; rfl
      obtain ⟨D1, d1', D2, d2', D3, d3', rfl, rfl, rfl, -, -, -, -, -, -, -, HRD, -⟩ := HQQ.open_
      obtain ⟨x, hx⟩ : ∃ x, goodB q.2.2 = x := ⟨_, rfl⟩
      have CX : Hid (Calls Tryz.prog 21 #[.agg #[.slice D3 q.2.2.length d3']] wr (RetB wr x)) := hx ▸ CN.out wr D3 d3' q (List.mem_of_getElem? hq) HRD.out
      rw [hx] at HT2
      obtain ⟨n3, hn3⟩ : ∃ n, q.2.2.length = n := ⟨_, rfl⟩
      rw [hn3] at CX a2
      have k0 : (0 : Int) ≤ (k : Int) := by omega
      have k1 : (k : Int) < (z : Int) := by omega
      clear hq hx hn3 HQQ HRD a0 a1
      cases b with
      | false =>
        go_wp2_with fail
        go_roundw
        case rel => exact ⟨k + 1, false, by omega, by go_num, rfl, khide HT2.out.symm, HB, HU⟩
        case measure => simp [intOf]; omega
      | true =>
        go_wp2_with (first | (go_at_call 21; (with_reducible refine (CX.out).mono ?_); rintro e w2 ⟨rfl, hb⟩) | fail)
        go_roundw
        case rel => exact ⟨k + 1, x, by omega, by go_num, rfl, khide HT2.out.symm, khide (HB.out.up hb.hid), khide (HU'.up hb.hid)⟩
        case measure => simp [intOf]; omega
    · obtain rfl : k = z := by omega
      have hbg : b = gd := by
        rw [HT.out, HG.out, List.take_of_length_le (by rw [← HZ.out]; exact Nat.le_refl _)]
      subst hbg
      have k1 : ¬ (k : Int) < (k : Int) := by omega
      go_upto_region 19 with fail
      clear hu_0 hu_l
      replace HB := HB.out.dr
      have HU2 := HU'.dr
      refine wp_region_held_drew (S := fun w' => w'.cell? ⟨w.heap.size, 0, none⟩ = some (.slice A k c)) (by kernel_rfl) ?_ (fun hHeld => ?_)
      · exact HU2.c0
      (refine wpAnyH_take (i := 1) (v := ?_) rfl (by decide +kernel) (by decide +kernel) (by decide +kernel) (fun _ _ _ h => h) (Or.inl ⟨by rfl, ?_⟩) (by assumption) ?_; rotate_left; (focus ((intro w hSw; (try dsimp only at hSw); go_simp); (try (with_reducible rfl)); done)); (try simp only [List.getElem_toArray, List.getElem_cons_zero, List.getElem_cons_succ, Act.put, List.setIfInBounds_toArray, List.set_cons_zero, List.set_cons_succ]))
      (refine wpAnyH_take (i := 3) (v := ?_) rfl (by decide +kernel) (by decide +kernel) (by decide +kernel) (fun _ _ _ h => h) (Or.inl ⟨by rfl, ?_⟩) (by assumption) ?_; rotate_left; (focus ((intro w hSw; (try dsimp only at hSw); go_simp); (try (with_reducible rfl)); done)); (try simp only [List.getElem_toArray, List.getElem_cons_zero, List.getElem_cons_succ, Act.put, List.setIfInBounds_toArray, List.set_cons_zero, List.set_cons_succ]))
      (refine wpAnyH_ready (rs := [0]) (by decide +kernel) (by simp) ?_; refine AllReadyH.cons rfl (fun K hK => ?_) AllReadyH.nil; go_simp; (go_at_call 9; (with_reducible refine (CM.out _).mono ?_); rintro e wx ⟨A3, B3, rfl, HN, HP, hb⟩; replace HB := HB.up (Bel.hid hb); replace HU2 := HU2.up (Bel.hid hb)); (try (go_wp2_with fail)); refine hK.out _ _ ?_ (fun hHeld => ?_); (focus ((try dsimp only); (with_reducible exact HU2.c0))); clear hK K; (try simp only [List.getElem_toArray, List.getElem_cons_zero, List.getElem_cons_succ, Act.put, List.setIfInBounds_toArray, List.set_cons_zero, List.set_cons_succ]))
      (refine wpAnyH_ready (rs := [2]) (by decide +kernel) (by simp) ?_; refine AllReadyH.cons rfl (fun K hK => ?_) AllReadyH.nil; go_simp; (go_at_call 13; (with_reducible refine (CG.out _ _ _ HB HN HP).mono ?_); rintro e wx ⟨rfl, hb⟩; replace HB := HB.up (Bel.hid hb); replace HU2 := HU2.up (Bel.hid hb)); (try (go_wp2_with fail)); refine hK.out _ _ ?_ (fun hHeld => ?_); (focus ((try dsimp only); (with_reducible exact HU2.c0))); clear hK K; (try simp only [List.getElem_toArray, List.getElem_cons_zero, List.getElem_cons_succ, Act.put, List.setIfInBounds_toArray, List.set_cons_zero, List.set_cons_succ]))
      (refine wpAnyH_take (i := 4) (v := ?_) rfl (by decide +kernel) (by decide +kernel) (by decide +kernel) (fun _ _ _ h => h) (Or.inl ⟨by rfl, ?_⟩) (by assumption) ?_; rotate_left; (focus ((intro w hSw; (try dsimp only at hSw); go_simp); (try (with_reducible rfl)); done)); (try simp only [List.getElem_toArray, List.getElem_cons_zero, List.getElem_cons_succ, Act.put, List.setIfInBounds_toArray, List.set_cons_zero, List.set_cons_succ]))
      (refine wpAnyH_take (i := 5) (v := ?_) rfl (by decide +kernel) (by decide +kernel) (by decide +kernel) (fun _ _ _ h => h) (Or.inl ⟨by rfl, ?_⟩) (by assumption) ?_; rotate_left; (focus ((intro w hSw; (try dsimp only at hSw); go_simp); (try (with_reducible rfl)); done)); (try simp only [List.getElem_toArray, List.getElem_cons_zero, List.getElem_cons_succ, Act.put, List.setIfInBounds_toArray, List.set_cons_zero, List.set_cons_succ]))
      refine wpAnyH_done (by decide +kernel) ?_ _
      go_wp2_with fail
      go_ret
      exact ⟨by simp, HB⟩
end
end Go.Proofs.YthdpojkeceoiiaaGreatDoor
