/- Several texts in one, each with its own sentence and conditions. -/
import Derived.Test.YthdpojkeceoiiaaGreatDoorGOmc29
import Derived.Test.YthdpojkeceoiiaaGreatDoorGOmc19
import Derived.Deep.RegionHeld
section
/- unit.Good of any unit; the law's names; that the law is awake. Conditions: lists that fit. -/
open Go.RowKit
set_option maxRecDepth 100000
namespace Go.Proofs.YthdpojkeceoiiaaGreatDoor
theorem unitD_ok {names ps : List ByteArray} {s : ByteArray} {r : List PL} (h : unitD names ps s = .ok r) : s.size ≤ 256 ∧ goodAll (pcs s) = true ∧ partsL names ps (cutBy andB (pcs s)) = some r ∧ r.length ≤ 4 := by
  unfold unitD at h
  by_cases h1 : 256 < s.size
  · rw [if_pos h1] at h; cases h
  · rw [if_neg h1] at h
    by_cases h2 : goodAll (pcs s) = false
    · rw [if_pos h2] at h; cases h
    · rw [if_neg h2] at h
      by_cases h3 : 4 < (cutBy andB (pcs s)).length
      · rw [if_pos h3] at h; cases h
      · rw [if_neg h3] at h
        cases h4 : partsL names ps (cutBy andB (pcs s)) with
        | none => rw [h4] at h; cases h
        | some r' =>
          rw [h4] at h
          injection h with h
          subst h
          have := partsL_len h4
          exact ⟨by omega, by simpa using h2, rfl, by omega⟩
theorem unitD_err {names ps : List ByteArray} {s : ByteArray} {v : Int} (h : unitD names ps s = .error v) : v = 11 ∨ v = 2 := by
  unfold unitD at h
  by_cases h1 : 256 < s.size
  · rw [if_pos h1] at h; injection h with h; exact .inl h.symm
  · rw [if_neg h1] at h
    by_cases h2 : goodAll (pcs s) = false
    · rw [if_pos h2] at h; injection h with h; exact .inr h.symm
    · rw [if_neg h2] at h
      by_cases h3 : 4 < (cutBy andB (pcs s)).length
      · rw [if_pos h3] at h; injection h with h; exact .inr h.symm
      · rw [if_neg h3] at h
        cases h4 : partsL names ps (cutBy andB (pcs s)) with
        | none => rw [h4] at h; injection h with h; exact .inr h.symm
        | some r' => rw [h4] at h; cases h
section
variable {A B C : Option Addr} {n c m d z e : Nat} {qs : List QL} {names ps : List ByteArray} {w : World}
theorem great_show (h : Qs w C qs) (hz : z = qs.length) (hz4 : z ≤ 4) (hg : qs.any greatQ = false) (hw : ∀ q ∈ qs, Good32 q.2.2) : Calls Tryz.prog 11 #[.agg #[.slice C z e]] w (StrR w (unitS (qs.map toP))) := by
  have hg' : ∀ q ∈ qs, greatQ q = false := fun q hq => by simpa using List.any_eq_false.1 hg q hq
  refine ushow_any h hz (by omega) (fun q hq => (great_fit (hg' q hq) (hw q hq)).1) ?_
  have h1 := unitN_small (ps := qs.map toP) (m := 2670) (fun p hp => by
    obtain ⟨q, hq, rfl⟩ := List.mem_map.1 hp
    exact (great_fit (hg' q hq) (hw q hq)).2) (qs.map toP).length
  show (unitN (qs.map toP) (qs.map toP).length).size ≤ _
  rw [List.length_map] at h1 ⊢
  have h2 : qs.length * (2670 + 5) ≤ 4 * (2670 + 5) := Nat.mul_le_mul_right _ (by omega)
  omega
theorem ugood_any (h1 : Ss w A names) (hn : n = names.length) (hl : n ≤ 1000000) (h2 : Ss w B ps) (hm : m = ps.length) (hl' : m ≤ 1000000) (h : Qs w C qs) (hz : z = qs.length) (hf : ∀ q ∈ qs, FitA q.1 ∧ FitA q.2.1) (hw : ∀ q ∈ qs, Good32 q.2.2) :
    Calls Tryz.prog 13 #[.agg #[.slice A n c, .slice B m d], .agg #[.slice C z e]] w (RetB w (goodU names ps qs)) := by
  unfold goodU
  by_cases h4 : z ≤ 4
  · rw [decide_eq_true (show qs.length ≤ 4 by omega)]
    cases hg : qs.any greatQ with
    | true => exact ugood_great h hz h4 hf hg
    | false =>
      have hS : ∀ W, Bel w W → Calls Tryz.prog 11 #[.agg #[.slice C z e]] W (StrR W (unitS (qs.map toP))) := fun W hb => great_show (h.up hb.hid) hz h4 hg hw
      have hP : ∀ W, Bel w W → Calls Tryz.prog 8 #[.agg #[.slice A n c, .slice B m d], .string (unitS (qs.map toP))] W (UnitR W (unitD names ps (unitS (qs.map toP)))) := fun W hb => uparse_any (h1.up hb.hid) hn hl (h2.up hb.hid) hm hl'
      cases hr : unitD names ps (unitS (qs.map toP)) with
      | error v =>
        rw [hr] at hP
        exact ugood_bad (unitD_err hr) h hz h4 hf hg hS hP
      | ok r =>
        rw [hr] at hP
        obtain ⟨_, _, k3, k4⟩ := unitD_ok hr
        have hp := partsL_ok k3
        refine ugood_ok h hz h4 hf hg hS hP k4 (fun q hq => ⟨(hf q hq).1.1, (hf q hq).2.1⟩) (fun q hq => ?_)
        obtain ⟨p, hp0, rfl⟩ := List.mem_map.1 hq
        have := (hp p hp0).2
        exact ⟨by show p.1.length ≤ _; omega, by show p.2.1.length ≤ _; omega⟩
  · rw [decide_eq_false (show ¬ qs.length ≤ 4 by omega)]
    exact ugood_many (by omega)
end
/-- meter, second, gram; kilo, milli. -/
def secB : ByteArray := ⟨#[115, 101, 99, 111, 110, 100]⟩
def graB : ByteArray := ⟨#[103, 114, 97, 109]⟩
def milB : ByteArray := ⟨#[109, 105, 108, 108, 105]⟩
def uN : List ByteArray := [meB, secB, graB]
def uP : List ByteArray := [kiloB, milB]
def SomeU (W : World) (e : Ending) (w' : World) : Prop := ∃ A B, e = .returned (.agg #[.slice A 3 3, .slice B 2 2]) ∧ Ss w' A uN ∧ Ss w' B uP ∧ Bel W w'
set_option maxHeartbeats 2000000 in
theorem some10_h (w : World) : Calls Tryz.prog 9 #[] w (SomeU w) := by
  obtain ⟨W1, hW1⟩ : ∃ X, X = w.alloc (.cells #[.slice none 0 0, .slice none 0 0] 31) := ⟨_, rfl⟩
  have HA : At W1 w.heap.size [.slice none 0 0, .slice none 0 0] := by rw [hW1]; exact at_new0 _ _ _
  have HB : Bel w W1 := by rw [hW1]; exact (Bel.refl w).al _
  have HW := khide hW1
  clear hW1
  go_enter Tryz.func9, Tryz.ntmps9
  go_upto_region 1 with fail
  rw [← HW.out]
  obtain ⟨q, hq⟩ : ∃ p, p = w.heap.size := ⟨_, rfl⟩
  have HQ : Hid (w.heap.size ≤ q) := by unfold Hid; omega
  rw [← hq] at HA ⊢
  clear HW hq
  have hr_0 := HA.c0; have hr_1 := HA.c1; have hr_l := HA.lt; have hr_f0 := HA.f0; have hr_f1 := HA.f1
  go_wp2_with fail
  refine bodyPost_ret (v := .agg #[.slice (some ⟨W1.heap.size, 0, none⟩) 3 3, .slice (some ⟨W1.heap.size + 1, 0, none⟩) 2 2]) (by simp [results, Tryz.results9, go_sem, hr_0, hr_1, hr_l]) rfl ⟨_, _, rfl, ?_, ?_, ?_⟩
  · exact ss_at ((at_size (at_new0 _ (uN.map Value.string) 9) (by simp [World.setCell])).al _)
  · exact ss_at (at_size (at_new0 _ (uP.map Value.string) 9) (by simp [World.setCell]))
  · exact ((Below.setCell (Below.setCell HB HQ.out _) HQ.out _).alloc (by have := HB.size; simpa [World.setCell] using this) _).alloc (by have := HB.size; simp [World.setCell]; omega) _
def mpsB : ByteArray := ⟨#[109, 101, 116, 101, 114, 45, 112, 101, 114, 45, 115, 101, 99, 111, 110, 100]⟩
def mpsP : PL := ([(⟨#[]⟩, meB, 1)], [(⟨#[]⟩, secB, 1)], oneB)
theorem mps_D : unitD uN uP mpsB = .ok [mpsP] := by
  have h : (match unitD uN uP mpsB with | .ok r => decide (r = [mpsP]) | .error _ => false) = true := by decide +kernel
  cases h2 : unitD uN uP mpsB with
  | error v => rw [h2] at h; cases h
  | ok r => rw [h2] at h; rw [of_decide_eq_true h]
theorem mps_S : unitS [mpsP] = mpsB := by decide +kernel
theorem mps_T : toP (ofP mpsP) = mpsP := toP_ofP oneB_num
theorem mps_G : greatQ (ofP mpsP) = false := by
  have h3 : (digs W32 (nuOf oneB)).length ≤ 3 := by rw [nuOf_one]; exact dl_le (by decide)
  unfold greatQ
  rw [show decide (3 < (ofP mpsP).2.2.length) = false from decide_eq_false (by show ¬ 3 < (digs W32 (nuOf oneB)).length; omega)]
  decide +kernel
theorem digs_good (v : Nat) : Good32 (digs W32 v) := digs_lt (by decide) v
end Go.Proofs.YthdpojkeceoiiaaGreatDoor
end

section
/- The law is awake. No conditions. -/
open Go.RowKit
set_option maxRecDepth 100000
namespace Go.Proofs.YthdpojkeceoiiaaGreatDoor
theorem dl_one : dl 1 = 1 := by decide +kernel
theorem nuT_one_data : oneB.data.toList = decL 1 := by decide +kernel
/-- What Parse comes to at the law's own text. -/
def MpsR (W : World) (e : Ending) (w' : World) : Prop := ∃ g c A1 c1 A2 c2 A3 c3, e = .returned (.tuple #[.agg #[.slice (some ⟨g, 0, none⟩) 1 c], .int .i64 0]) ∧ g < w'.heap.size ∧ w'.cell? ⟨g, 0, none⟩ = some (.slice A1 1 c1) ∧ w'.cell? ⟨g, 1, none⟩ = some (.slice A2 1 c2) ∧ w'.cell? ⟨g, 2, none⟩ = some (.slice A3 1 c3) ∧ Qs w' (some ⟨g, 0, none⟩) [ofP mpsP] ∧ Nm w' A3 1 c3 1 ∧ Bel W w'
theorem mps_parse {A B : Option Addr} {w : World} (h : Ss w A uN) (h' : Ss w B uP) : Calls Tryz.prog 8 #[.agg #[.slice A 3 3, .slice B 2 2], .string mpsB] w (MpsR w) := by
  refine (uparse_any h rfl (by decide) h' rfl (by decide)).mono fun e w' hr => ?_
  rw [mps_D] at hr
  obtain ⟨g, c, h1, h2, h3, h4, h5⟩ := hr
  obtain ⟨ad, v1, v2, v3, e0, hb, a0, a1, a2, hq⟩ := h4.at_ (k := 0) rfl
  injection e0 with e0
  subst e0
  obtain ⟨A1, c1, A2, c2, A3, c3, rfl, rfl, rfl, b1, b2, b3, b4, r1, r2, r3, r4, r5⟩ := hq.open_
  have e2 : (digs W32 (nuOf oneB)) = [1] := by rw [nuOf_one]; decide +kernel
  have e3 : (ofP mpsP).2.2 = [1] := e2
  rw [e3] at a2 r3
  exact ⟨g, c, A1, c1, A2, c2, A3, c3, h1, hb, a0, a1, a2, h4, r3, h5⟩
theorem mps_show {w : World} {g c : Nat} (h : Qs w (some ⟨g, 0, none⟩) [ofP mpsP]) : Calls Tryz.prog 11 #[.agg #[.slice (some ⟨g, 0, none⟩) 1 c]] w (StrR w mpsB) := by
  have h1 := great_show (e := c) h rfl (by decide) (show [ofP mpsP].any greatQ = false by rw [List.any_cons, mps_G]; rfl) (fun q hq => by
    rw [List.mem_singleton] at hq
    subst hq
    exact digs_good _)
  have e : unitS ([ofP mpsP].map toP) = mpsB := by rw [show [ofP mpsP].map toP = [mpsP] from by rw [List.map_cons, mps_T]; rfl, mps_S]
  rwa [e] at h1
set_option maxHeartbeats 4000000 in
theorem awake10_h (w : World) : Calls Tryz.prog 7 #[] w (RetB w true) := by
  have CM : Hid (∀ W : World, Calls Tryz.prog 9 #[] W (SomeU W)) := some10_h
  have CP : Hid (∀ (W : World) (A B : Option Addr), Ss W A uN → Ss W B uP → Calls Tryz.prog 8 #[.agg #[.slice A 3 3, .slice B 2 2], .string ⟨#[109, 101, 116, 101, 114, 45, 112, 101, 114, 45, 115, 101, 99, 111, 110, 100]⟩] W (MpsR W)) := fun W A B h h' => mps_parse h h'
  have CS : Hid (∀ (W : World) (g c : Nat), Qs W (some ⟨g, 0, none⟩) [ofP mpsP] → Calls Tryz.prog 11 #[.agg #[.slice (some ⟨g, 0, none⟩) 1 c]] W (StrR W ⟨#[109, 101, 116, 101, 114, 45, 112, 101, 114, 45, 115, 101, 99, 111, 110, 100]⟩)) := fun W g c h => mps_show h
  have CT : Hid (∀ (W : World) (A : Option Addr) (c : Nat), Nm W A 1 c 1 → Calls Tryz.prog 12 #[.agg #[.slice A 1 c]] W (TextR W ⟨#[49]⟩)) := fun W A c h => text_r h nuT_one_data
  go_enter Tryz.func7, Tryz.ntmps7
  go_upto_region 2 with (first | (go_at_call 9; (with_reducible refine (CM.out _).mono ?_); rintro e w2 ⟨A, B, rfl, HN, HP, hb2⟩) | (go_at_call 8; (with_reducible refine (CP.out _ _ _ HN HP).mono ?_); rintro e w3 ⟨g, c, A1, c1, A2, c2, A3, c3, rfl, hg, a0, a1, a2, HQ, HT, hb3⟩) | fail)
  refine kwp_named ?_
  intro W4 hW4
  have HB : Bel w W4 := by rw [hW4]; exact (hb2.up hb3.hid).al _
  have HX : At W4 w3.heap.size [.slice (some ⟨g, 0, none⟩) 1 c] := by rw [hW4]; exact at_new0 _ _ _
  replace HQ : Qs W4 (some ⟨g, 0, none⟩) [ofP mpsP] := by rw [hW4]; exact HQ.al _
  replace HT : Nm W4 A3 1 c3 1 := by rw [hW4]; exact HT.al _
  have HG : Hid (∀ j v, w3.cell? ⟨g, j, none⟩ = some v → W4.cell? ⟨g, j, none⟩ = some v) := fun j v h => by rw [hW4]; exact (World.cell?_alloc_lt _ _ (⟨g, j, none⟩ : Addr) hg).trans h
  replace a0 := HG.out _ _ a0; replace a1 := HG.out _ _ a1; replace a2 := HG.out _ _ a2
  replace hg : g < W4.heap.size := by rw [hW4]; simp; omega
  obtain ⟨p, hp⟩ : ∃ p, p = w3.heap.size := ⟨_, rfl⟩
  rw [← hp] at HX
  rw [← hp]
  clear hW4 hp hb2 hb3 HN HP HG
  have hx_0 := HX.c0; have hx_l := HX.lt
  go_wp2_with (first | (go_at_call 11; (with_reducible refine (CS.out _ _ _ HQ).mono ?_); rintro e w5 ⟨rfl, hb5⟩; clear hx_0 hx_l; replace HX := HX.up hb5; replace HB := HB.up hb5; replace HT := HT.up hb5; replace a0 := (hb5.out.cell (p := ⟨g, 0, none⟩) hg).trans a0; replace a1 := (hb5.out.cell (p := ⟨g, 1, none⟩) hg).trans a1; replace a2 := (hb5.out.cell (p := ⟨g, 2, none⟩) hg).trans a2; have hx_0 := HX.c0; have hx_l := HX.lt) | (go_at_call 12; (with_reducible refine (CT.out _ _ _ HT).mono ?_); rintro e w6 ⟨rfl, hb6⟩) | fail)
  go_ret
  exact ⟨rfl, HB.up hb6⟩
end Go.Proofs.YthdpojkeceoiiaaGreatDoor
end

section
/- The law's own atomOf, knownOf, atomsOf. Conditions: atoms that fit. -/
open Go.RowKit
set_option maxRecDepth 100000
namespace Go.Proofs.YthdpojkeceoiiaaGreatDoor
/-- A row of atoms that the call made. -/
def AtomsOR (W : World) (l : List AL) (e : Ending) (w' : World) : Prop := ∃ A c, e = .returned (.slice A l.length c) ∧ (A = none → c = 0) ∧ Hid (l = [] → A = none ∧ c = 0) ∧ Hid (w'.ownsRow W.heap.size 125 3 (.slice A l.length c) l.length (cellsA l)) ∧ Bel W w'
def RetAA (W : World) (p n : ByteArray) (k : Int) (e : Ending) (w' : World) : Prop := e = .returned (.agg #[.string p, .string n, .int .i64 k]) ∧ Bel W w'
theorem atomOf10_any (p n : ByteArray) (k : Int) (w : World) : Calls Tryz.prog 98 #[.agg #[.string p, .string n, .int .i64 k]] w (RetAA w p n k) := by
  obtain ⟨W1, hW1⟩ : ∃ X, X = (w.alloc (.cells #[.string p, .string n, .int .i64 k] 59)).alloc (.cells #[.string ⟨#[]⟩, .string ⟨#[]⟩, .int .i64 0] 125) := ⟨_, rfl⟩
  have HA : At W1 w.heap.size [.string p, .string n, .int .i64 k] := by rw [hW1]; exact (at_new0 _ _ _).al _
  have HR : At W1 (w.heap.size + 1) [.string ⟨#[]⟩, .string ⟨#[]⟩, .int .i64 0] := by rw [hW1]; exact at_new1 _ _ _ _
  have HB : Bel w W1 := by rw [hW1]; exact ((Bel.refl w).al _).al _
  have HW := khide hW1
  clear hW1
  have ha_0 := HA.c0; have ha_1 := HA.c1; have ha_2 := HA.c2; have ha_l := HA.lt
  have hr_0 := HR.c0; have hr_1 := HR.c1; have hr_2 := HR.c2; have hr_l := HR.lt; have hr_f0 := HR.f0; have hr_f1 := HR.f1; have hr_f2 := HR.f2
  go_enter Tryz.func98, Tryz.ntmps98
  go_upto_region 1 with fail
  rw [← HW.out]
  go_wp2_with fail
  refine bodyPost_ret (v := .agg #[.string p, .string n, .int .i64 k]) (by simp [results, Tryz.results98, go_sem, hr_0, hr_1, hr_2]) rfl ⟨rfl, kbelow3 HB (by omega) _ _ _⟩
theorem knownOf10_any (A B : Option Addr) (n c m d : Nat) (w : World) : Calls Tryz.prog 17 #[.agg #[.slice A n c, .slice B m d]] w fun e w' => e = .returned (.agg #[.slice A n c, .slice B m d]) ∧ Bel w w' := by
  obtain ⟨W1, hW1⟩ : ∃ X, X = (w.alloc (.cells #[.slice A n c, .slice B m d] 31)).alloc (.cells #[.slice none 0 0, .slice none 0 0] 48) := ⟨_, rfl⟩
  have HA : At W1 w.heap.size [.slice A n c, .slice B m d] := by rw [hW1]; exact (at_new0 _ _ _).al _
  have HR : At W1 (w.heap.size + 1) [.slice none 0 0, .slice none 0 0] := by rw [hW1]; exact at_new1 _ _ _ _
  have HB : Bel w W1 := by rw [hW1]; exact ((Bel.refl w).al _).al _
  have HW := khide hW1
  clear hW1
  have ha_0 := HA.c0; have ha_1 := HA.c1; have ha_l := HA.lt
  have hr_0 := HR.c0; have hr_1 := HR.c1; have hr_l := HR.lt; have hr_f0 := HR.f0; have hr_f1 := HR.f1
  go_enter Tryz.func17, Tryz.ntmps17
  go_upto_region 1 with fail
  rw [← HW.out]
  go_wp2_with fail
  refine bodyPost_ret (v := .agg #[.slice A n c, .slice B m d]) (by simp [results, Tryz.results17, go_sem, hr_0, hr_1]) rfl ⟨rfl, Below.setCell (Below.setCell HB (by show w.heap.size ≤ w.heap.size + 1; omega) _) (by show w.heap.size ≤ w.heap.size + 1; omega) _⟩
set_option maxHeartbeats 4000000 in
theorem atomsOf_any {A : Option Addr} {n c : Nat} {l : List AL} {w : World} (h : Cs w A (cellsA l)) (hn : n = l.length) (hl : n ≤ 1000000) : Calls Tryz.prog 71 #[.slice A n c] w (AtomsOR w l) := by
  have HN := khide hn
  obtain ⟨i0, hi, hz0, hz1, hz2⟩ := info_parts infoAtomC
  have J0 := khide hi; have Y0 := khide hz0; have Y1 := khide hz1; have Y2 := khide hz2
  clear hi hz0 hz1 hz2 hn
  go_enter Tryz.func71, Tryz.ntmps71
  go_wp2
  go_loopw [3, 4] (fun rv iv wr => ∃ (k cp : Nat) (R : Option Addr), k ≤ n ∧ iv = .int .i64 (k : Int) ∧ rv = .slice R k cp ∧ Hid (k = 0 → R = none ∧ cp = 0) ∧ Hid (wr.ownsRow w.heap.size 125 3 (.slice R k cp) k (cellsA (l.take k))) ∧ Hid (Below w.heap.size w wr)) (fun _ iv _ => n - (intOf iv).toNat)
  case atStart => exact ⟨0, 0, none, Nat.zero_le _, rfl, rfl, fun _ => ⟨rfl, rfl⟩, World.ownsRow_nil _ _ _ _, Below.refl _ _⟩
  case round =>
    obtain ⟨k, cp, R, hk, rfl, rfl, HZ, HO, HB⟩ := hrel
    by_cases hlt : k < n
    · obtain ⟨a, ha⟩ : ∃ a, l[k]? = some a := ⟨l[k]'(by rw [← HN.out]; exact hlt), List.getElem?_eq_getElem _⟩
      obtain ⟨ad, rfl, had, a0, a1, a2⟩ := cs_at3 (h.up HB) ha
      obtain ⟨p, nm, pk⟩ := a
      have C0 : Hid (Calls Tryz.prog 98 #[.agg #[.string p, .string nm, .int .i64 pk]] wr (RetAA wr p nm pk)) := atomOf10_any p nm pk wr
      have HX : Hid (cellsA (l.take (k + 1)) = cellsA (l.take k) ++ cellA (p, nm, pk)) := by
        obtain ⟨hx, hx2⟩ := List.getElem?_eq_some_iff.1 ha
        unfold Hid
        rw [List.take_succ_eq_append_getElem hx, hx2, cellsA_snoc]
      have HBS : Hid (w.heap.size ≤ wr.heap.size) := HB.out.size
      have k0 : (0 : Int) ≤ (k : Int) := by omega
      have k1 : (k : Int) < (n : Int) := by omega
      clear ha
      go_wp2_with (first | (go_at_call 98; (with_reducible refine (C0.out).mono ?_); rintro e w2 ⟨rfl, hb2⟩) | (at_builtin; go_must (refine wpList_append_own _ rfl (.tmp 11) (.tmp 17) 84 rfl w.heap.size 125 i0 (.agg #[.string ByteArray.empty, .string ByteArray.empty, .int .i64 0]) 3 40 Tryz.underlying84 J0.out Y0.out Y1.out Y2.out rfl (by decide) _ _ _ rfl ((own_up HO.out hb2.hid).alloc _) ⟨w2.heap.size, 0, none⟩ 1 1 (cellA (p, nm, pk)) rfl rfl (at_news (at_new0 _ _ _)) (cellA_one _) (by simp only [maxLen]; omega) (by omega) (Nat.le_trans HBS.out (Nat.le_trans hb2.size (by simp))) ?_); intro v1 w3 ho1 hg1 hn1; clear hn1) | fail)
      have hg2 : (w2.alloc (.cells #[.string p, .string nm, .int .i64 pk] 125)).grownBy w3 (Value.slice R k cp).ownBlock := hg1
      have HO2 := own_up HO.out hb2.hid
      have HB2 : Hid (Below w.heap.size w w2) := HB.out.trans (hb2.mono HBS.out)
      have HB3 : Hid (Below w.heap.size w w3) := (HB2.out.alloc HB2.out.size _).grown hg2 (HB2.out.alloc HB2.out.size _).size (fun g' e => (HO2.lt g' e).1)
      obtain ⟨R2, cp2, rfl, _⟩ := own_slice ho1
      have HO3 := khide ho1
      clear hg1 hg2 ho1 HO2
      go_roundw
      case rel =>
        refine ⟨k + 1, cp2, R2, by omega, by go_num, rfl, (fun e => by omega), ?_, HB3⟩
        rw [HX.out]
        exact HO3
      case measure => simp [intOf]; omega
    · obtain rfl : k = n := by omega
      go_wp2
      go_ret
      have h3 := HO.out
      rw [List.take_of_length_le (by rw [← HN.out]; exact Nat.le_refl _)] at h3
      refine ⟨R, cp, by rw [← HN.out]; rfl, ?_, fun e2 => HZ.out (by rw [HN.out, e2]; rfl), by rw [← HN.out]; exact h3, HB.out⟩
      obtain ⟨A1, c1, e1, h1⟩ := own_slice h3
      injection e1 with e2 _ e3
      subst e2; subst e3
      exact h1
end Go.Proofs.YthdpojkeceoiiaaGreatDoor
end

section
/- The law's partOf; rows of the document's parts that a call builds; partsOf. Conditions: lists that fit. -/
open Go.RowKit
set_option maxRecDepth 100000
namespace Go.Proofs.YthdpojkeceoiiaaGreatDoor
/-- A part that the call made. -/
def PartO (W : World) (p : PL) (e : Ending) (w' : World) : Prop := ∃ A1 c1 A2 c2, e = .returned (.agg #[.slice A1 p.1.length c1, .slice A2 p.2.1.length c2, .string p.2.2]) ∧
  Hid (w'.ownsRow W.heap.size 125 3 (.slice A1 p.1.length c1) p.1.length (cellsA p.1)) ∧ Hid (w'.ownsRow W.heap.size 125 3 (.slice A2 p.2.1.length c2) p.2.1.length (cellsA p.2.1)) ∧ Bel W w'
theorem own_dr {W : World} {base size n : Nat} {e : TypeId} {v : Value} {xs : List Value} (h : Hid (W.ownsRow base e size v n xs)) : Hid (W.drew.ownsRow base e size v n xs) := h
section
variable {w : World} {q : QL}
set_option maxHeartbeats 8000000 in
theorem partOf_any {v1 v2 v3 : Value} (hq : Q1 w v1 v2 v3 q) (hl : LenQ q) : Calls Tryz.prog 45 #[.agg #[v1, v2, v3]] w (PartO w (toP q)) := by
  obtain ⟨A1, c1, A2, c2, A3, c3, rfl, rfl, rfl, b1, b2, b3, b4, r1, r2, r3, -, -⟩ := hq.open_
  obtain ⟨l1, l2, ws⟩ := q
  obtain ⟨h1, h2⟩ := hl
  have C1 : Hid (∀ W, Bel w W → Calls Tryz.prog 71 #[.slice A1 l1.length c1] W (AtomsOR W l1)) := fun W hb => atomsOf_any (r1.up hb.hid) rfl h1
  have C2 : Hid (∀ W, Bel w W → Calls Tryz.prog 71 #[.slice A2 l2.length c2] W (AtomsOR W l2)) := fun W hb => atomsOf_any (r2.up hb.hid) rfl h2
  have CT : Hid (∀ W, Bel w W → Calls Tryz.prog 12 #[.agg #[.slice A3 ws.length c3]] W (TextR W (nuT (val W32 ws)))) := fun W hb => text_r (r3.up hb.hid) (nuT_data _)
  show Calls Tryz.prog 45 #[.agg #[.slice A1 l1.length c1, .slice A2 l2.length c2, .slice A3 ws.length c3]] w (PartO w (l1, l2, nuT (val W32 ws)))
  obtain ⟨t, ht⟩ : ∃ t, nuT (val W32 ws) = t := ⟨_, rfl⟩
  rw [ht] at CT ⊢
  obtain ⟨n1, hn1⟩ : ∃ n, l1.length = n := ⟨_, rfl⟩
  obtain ⟨n2, hn2⟩ : ∃ n, l2.length = n := ⟨_, rfl⟩
  obtain ⟨n3, hn3⟩ : ∃ n, ws.length = n := ⟨_, rfl⟩
  unfold PartO
  unfold AtomsOR at C1 C2
  dsimp only
  rw [hn1] at C1 ⊢
  rw [hn2] at C2 ⊢
  rw [hn3] at CT ⊢
  clear b1 b2 b3 b4 r1 r2 r3 hq h1 h2 ht hn1 hn2 hn3
  obtain ⟨W1, hW1⟩ : ∃ X, X = (w.alloc (.cells #[.slice A1 n1 c1, .slice A2 n2 c2, .slice A3 n3 c3] 41)).alloc (.cells #[.slice none 0 0, .slice none 0 0, .string ⟨#[]⟩] 86) := ⟨_, rfl⟩
  have HP : At W1 w.heap.size [.slice A1 n1 c1, .slice A2 n2 c2, .slice A3 n3 c3] := by rw [hW1]; exact (at_new0 _ _ _).al _
  have HR : At W1 (w.heap.size + 1) [.slice none 0 0, .slice none 0 0, .string ⟨#[]⟩] := by rw [hW1]; exact at_new1 _ _ _ _
  have HB : Bel w W1 := by rw [hW1]; exact ((Bel.refl w).al _).al _
  have HW := khide hW1
  clear hW1
  have hrp : w.heap.size + 1 ≠ w.heap.size := by omega
  go_enter Tryz.func45, Tryz.ntmps45
  go_upto_region 1 with fail
  rw [← HW.out]
  clear HW
  replace HP := HP.dr; replace HR := HR.dr; replace HB := HB.dr
  refine wp_region_held_drew (S := fun w' => w'.cell? ⟨w.heap.size, 0, none⟩ = some (.slice A1 n1 c1) ∧ w'.cell? ⟨w.heap.size, 1, none⟩ = some (.slice A2 n2 c2) ∧ w'.cell? ⟨w.heap.size, 2, none⟩ = some (.slice A3 n3 c3)) (by kernel_rfl) ?_ (fun hHeld => ?_)
  · exact ⟨HP.c0, HP.c1, HP.c2⟩
  have hr_f0 := HR.f0; have hr_f1 := HR.f1; have hr_f2 := HR.f2; have hr_0 := HR.c0; have hr_1 := HR.c1; have hr_2 := HR.c2; have hr_l := HR.lt
  generalize W1.drew = Wd at *
  have hrl := HR.lt
  have hwb := HB.size
  obtain ⟨bs, hbs⟩ : ∃ b, b = Wd.heap.size := ⟨_, rfl⟩
  rw [← hbs] at hrl hwb
  have HBS := khide hbs
  clear hbs
  (refine wpAnyH_take (i := 0) (v := ?_) rfl (by decide +kernel) (by decide +kernel) (by decide +kernel) (fun _ _ _ h => h) (Or.inl ⟨by rfl, ?_⟩) (by assumption) ?_; rotate_left; (focus ((intro w hSw; (try dsimp only at hSw); go_simp); (try (with_reducible rfl)); done)); (try simp only [List.getElem_toArray, List.getElem_cons_zero, List.getElem_cons_succ, Act.put, List.setIfInBounds_toArray, List.set_cons_zero, List.set_cons_succ]))
  (refine wpAnyH_take (i := 1) (v := ?_) rfl (by decide +kernel) (by decide +kernel) (by decide +kernel) (fun _ _ _ h => h) (Or.inl ⟨by rfl, ?_⟩) (by assumption) ?_; rotate_left; (focus ((intro w hSw; (try dsimp only at hSw); go_simp); (try (with_reducible rfl)); done)); (try simp only [List.getElem_toArray, List.getElem_cons_zero, List.getElem_cons_succ, Act.put, List.setIfInBounds_toArray, List.set_cons_zero, List.set_cons_succ]))
  (refine wpAnyH_take (i := 3) (v := ?_) rfl (by decide +kernel) (by decide +kernel) (by decide +kernel) (fun _ _ _ h => h) (Or.inl ⟨by rfl, ?_⟩) (by assumption) ?_; rotate_left; (focus ((intro w hSw; (try dsimp only at hSw); go_simp); (try (with_reducible rfl)); done)); (try simp only [List.getElem_toArray, List.getElem_cons_zero, List.getElem_cons_succ, Act.put, List.setIfInBounds_toArray, List.set_cons_zero, List.set_cons_succ]))
  (refine wpAnyH_take (i := 4) (v := ?_) rfl (by decide +kernel) (by decide +kernel) (by decide +kernel) (fun _ _ _ h => h) (Or.inl ⟨by rfl, ?_⟩) (by assumption) ?_; rotate_left; (focus ((intro w hSw; (try dsimp only at hSw); go_simp); (try (with_reducible rfl)); done)); (try simp only [List.getElem_toArray, List.getElem_cons_zero, List.getElem_cons_succ, Act.put, List.setIfInBounds_toArray, List.set_cons_zero, List.set_cons_succ]))
  (refine wpAnyH_take (i := 6) (v := ?_) rfl (by decide +kernel) (by decide +kernel) (by decide +kernel) (fun _ _ _ h => h) (Or.inl ⟨by rfl, ?_⟩) (by assumption) ?_; rotate_left; (focus ((intro w hSw; (try dsimp only at hSw); go_simp); (try (with_reducible rfl)); done)); (try simp only [List.getElem_toArray, List.getElem_cons_zero, List.getElem_cons_succ, Act.put, List.setIfInBounds_toArray, List.set_cons_zero, List.set_cons_succ]))
  (refine wpAnyH_take (i := 7) (v := ?_) rfl (by decide +kernel) (by decide +kernel) (by decide +kernel) (fun _ _ _ h => h) (Or.inl ⟨by rfl, ?_⟩) (by assumption) ?_; rotate_left; (focus ((intro w hSw; (try dsimp only at hSw); go_simp); (try (with_reducible rfl)); done)); (try simp only [List.getElem_toArray, List.getElem_cons_zero, List.getElem_cons_succ, Act.put, List.setIfInBounds_toArray, List.set_cons_zero, List.set_cons_succ]))
  (refine wpAnyH_ready (rs := [2]) (by decide +kernel) (by simp) ?_; refine AllReadyH.cons rfl (fun K hK => ?_) AllReadyH.nil; go_simp; (go_at_call 71; (with_reducible refine (C1.out _ HB).mono ?_); rintro e w3 ⟨B1, d1, rfl, -, -, HO1, hb⟩; replace HP := HP.up (Bel.hid hb); replace HR := HR.up (Bel.hid hb); replace HB := HB.up (Bel.hid hb); replace HO1 := khide (own_base HO1.out (show bs ≤ _ from HBS.out ▸ Nat.le_refl _)); have HZ := khide (show bs ≤ w3.heap.size from HBS.out ▸ hb.size); clear hr_f0 hr_f1 hr_f2 hr_0 hr_1 hr_2 hr_l; have hr_f0 := HR.f0; have hr_f1 := HR.f1; have hr_f2 := HR.f2; have hr_0 := HR.c0; have hr_1 := HR.c1; have hr_2 := HR.c2; have hr_l := HR.lt); (try (go_wp2_with fail)); refine hK.out _ _ ?_ (fun hHeld => ?_); (focus ((try dsimp only); (first | (with_reducible exact ⟨HP.c0, HP.c1, HP.c2⟩) | exact KS.out _ _ _))); clear hK K; (try simp only [List.getElem_toArray, List.getElem_cons_zero, List.getElem_cons_succ, Act.put, List.setIfInBounds_toArray, List.set_cons_zero, List.set_cons_succ]))
  (refine wpAnyH_ready (rs := [5]) (by decide +kernel) (by simp) ?_; refine AllReadyH.cons rfl (fun K hK => ?_) AllReadyH.nil; go_simp; (go_at_call 71; (with_reducible refine (C2.out _ HB).mono ?_); rintro e w4 ⟨B2, d2, rfl, -, -, HO2, hb⟩; replace HP := HP.up (Bel.hid hb); replace HR := HR.up (Bel.hid hb); replace HB := HB.up (Bel.hid hb); replace HO1 := khide (own_up HO1.out (Bel.hid hb)); replace HO2 := khide (own_base HO2.out HZ.out); replace HZ := khide (Nat.le_trans HZ.out hb.size); clear hr_f0 hr_f1 hr_f2 hr_0 hr_1 hr_2 hr_l; have hr_f0 := HR.f0; have hr_f1 := HR.f1; have hr_f2 := HR.f2; have hr_0 := HR.c0; have hr_1 := HR.c1; have hr_2 := HR.c2; have hr_l := HR.lt); (try (go_wp2_with fail)); refine hK.out _ _ ?_ (fun hHeld => ?_); (focus ((try dsimp only); (first | (with_reducible exact ⟨HP.c0, HP.c1, HP.c2⟩) | exact KS.out _ _ _))); clear hK K; (try simp only [List.getElem_toArray, List.getElem_cons_zero, List.getElem_cons_succ, Act.put, List.setIfInBounds_toArray, List.set_cons_zero, List.set_cons_succ]))
  (refine wpAnyH_ready (rs := [8]) (by decide +kernel) (by simp) ?_; refine AllReadyH.cons rfl (fun K hK => ?_) AllReadyH.nil; go_simp; (go_at_call 12; (with_reducible refine (CT.out _ HB).mono ?_); rintro e w5 ⟨rfl, hb⟩; replace HP := HP.up hb; replace HR := HR.up hb; replace HB := HB.up hb; replace HO1 := khide (own_up HO1.out hb); replace HO2 := khide (own_up HO2.out hb); clear hr_f0 hr_f1 hr_f2 hr_0 hr_1 hr_2 hr_l; have hr_f0 := HR.f0; have hr_f1 := HR.f1; have hr_f2 := HR.f2; have hr_0 := HR.c0; have hr_1 := HR.c1; have hr_2 := HR.c2; have hr_l := HR.lt; have KS : Hid (∀ x y z : Value, (((w5.setCell ⟨w.heap.size + 1, 0, none⟩ x).setCell ⟨w.heap.size + 1, 1, none⟩ y).setCell ⟨w.heap.size + 1, 2, none⟩ z).cell? ⟨w.heap.size, 0, none⟩ = some (.slice A1 n1 c1) ∧ (((w5.setCell ⟨w.heap.size + 1, 0, none⟩ x).setCell ⟨w.heap.size + 1, 1, none⟩ y).setCell ⟨w.heap.size + 1, 2, none⟩ z).cell? ⟨w.heap.size, 1, none⟩ = some (.slice A2 n2 c2) ∧ (((w5.setCell ⟨w.heap.size + 1, 0, none⟩ x).setCell ⟨w.heap.size + 1, 1, none⟩ y).setCell ⟨w.heap.size + 1, 2, none⟩ z).cell? ⟨w.heap.size, 2, none⟩ = some (.slice A3 n3 c3)) := (fun x y z => by have h5 := ((HP.far hrp (i := 0) x).far hrp (i := 1) y).far hrp (i := 2) z; exact ⟨h5.c0, h5.c1, h5.c2⟩)); (try (go_wp2_with fail)); refine hK.out _ _ ?_ (fun hHeld => ?_); (focus ((try dsimp only); (first | (with_reducible exact ⟨HP.c0, HP.c1, HP.c2⟩) | exact KS.out _ _ _))); clear hK K; (try simp only [List.getElem_toArray, List.getElem_cons_zero, List.getElem_cons_succ, Act.put, List.setIfInBounds_toArray, List.set_cons_zero, List.set_cons_succ]))
  (refine wpAnyH_take (i := 9) (v := ?_) rfl (by decide +kernel) (by decide +kernel) (by decide +kernel) (fun _ _ _ h => h) (Or.inl ⟨by rfl, ?_⟩) (by assumption) ?_; rotate_left; (focus ((intro w hSw; (try dsimp only at hSw); go_simp); (try (with_reducible rfl)); done)); (try simp only [List.getElem_toArray, List.getElem_cons_zero, List.getElem_cons_succ, Act.put, List.setIfInBounds_toArray, List.set_cons_zero, List.set_cons_succ]))
  (refine wpAnyH_ready (rs := [10]) (by decide +kernel) (by simp) ?_; refine AllReadyH.cons rfl (fun K hK => ?_) AllReadyH.nil; go_simp; refine hK.out _ _ ?_ (fun hHeld => ?_); (focus ((try dsimp only); (first | (with_reducible exact ⟨HP.c0, HP.c1, HP.c2⟩) | exact KS.out _ _ _))); clear hK K; (try simp only [List.getElem_toArray, List.getElem_cons_zero, List.getElem_cons_succ, Act.put, List.setIfInBounds_toArray, List.set_cons_zero, List.set_cons_succ]))
  refine wpAnyH_done (by decide +kernel) ?_ _
  go_wp2_with fail
  have hs : w.heap.size ≤ w.heap.size + 1 := Nat.le_succ _
  refine bodyPost_ret (v := .agg #[.slice B1 n1 d1, .slice B2 n2 d2, .string t]) (by simp [results, Tryz.results45, go_sem, hr_0, hr_1, hr_2, hr_l]) rfl ?_
  exact ⟨B1, d1, B2, d2, rfl, own_base (ownsRow_setCell_below (ownsRow_setCell_below (ownsRow_setCell_below HO1.out hrl _) hrl _) hrl _) hwb, own_base (ownsRow_setCell_below (ownsRow_setCell_below (ownsRow_setCell_below HO2.out hrl _) hrl _) hrl _) hwb, kbelow3 HB hs _ _ _⟩
end
theorem own_type_ne3 {w : World} {base size size' : Nat} {e e' : TypeId} {v v' : Value} {n n' : Nat} {xs xs' : List Value} (h : w.ownsRow base e size v n xs) (h' : w.ownsRow base e' size' v' n' xs') (hne : e ≠ e') : v.ownBlock = none ∨ v.ownBlock ≠ v'.ownBlock := by
  rcases h.2 with ⟨rfl, _⟩ | ⟨g, cap, cur, rfl, _, hg, _⟩
  · exact .inl rfl
  · rcases h'.2 with ⟨rfl, _⟩ | ⟨g', cap', cur', rfl, _, hg', _⟩
    · right; simp [Value.ownBlock]
    · right
      simp only [Value.ownBlock, ne_eq, Option.some.injEq]
      rintro rfl
      rw [hg] at hg'
      injection hg' with hg'
      injection hg' with _ ht
      exact hne ht
/-- A row of parts that the call above base made, its atoms too. -/
structure OwnP (base : Nat) (w : World) (v : Value) (ps : List PL) (cs : List Value) : Prop where
  own : w.ownsRow base 86 3 v ps.length cs
  len : cs.length = ps.length * 3
  each : ∀ j p, ps[j]? = some p → ∃ A1 c1 A2 c2, cs[j * 3]? = some (.slice A1 p.1.length c1) ∧ cs[j * 3 + 1]? = some (.slice A2 p.2.1.length c2) ∧ cs[j * 3 + 2]? = some (.string p.2.2) ∧
    w.ownsRow base 125 3 (.slice A1 p.1.length c1) p.1.length (cellsA p.1) ∧ w.ownsRow base 125 3 (.slice A2 p.2.1.length c2) p.2.1.length (cellsA p.2.1)
section
variable {base : Nat} {w w' : World} {v v' : Value} {ps : List PL} {p : PL} {cs : List Value}
theorem OwnP.nil : OwnP base w (.slice none 0 0) [] [] := ⟨World.ownsRow_nil _ _ _ _, rfl, fun j p h => by simp at h⟩
theorem OwnP.up (h : OwnP base w v ps cs) (hb : Hid (Below w.heap.size w w')) : OwnP base w' v ps cs :=
  ⟨own_up h.own hb, h.len, fun j p hj => by
    obtain ⟨A1, c1, A2, c2, e1, e2, e3, h1, h2⟩ := h.each j p hj
    exact ⟨A1, c1, A2, c2, e1, e2, e3, own_up h1 hb, own_up h2 hb⟩⟩
theorem OwnP.more {A1 A2 : Option Addr} {c1 c2 : Nat} (h : OwnP base w v ps cs) (ho : w'.ownsRow base 86 3 v' (ps.length + 1) (cs ++ [.slice A1 p.1.length c1, .slice A2 p.2.1.length c2, .string p.2.2])) (hg : w.grownBy w' v.ownBlock)
    (h1 : w.ownsRow base 125 3 (.slice A1 p.1.length c1) p.1.length (cellsA p.1)) (h2 : w.ownsRow base 125 3 (.slice A2 p.2.1.length c2) p.2.1.length (cellsA p.2.1)) :
    OwnP base w' v' (ps ++ [p]) (cs ++ [.slice A1 p.1.length c1, .slice A2 p.2.1.length c2, .string p.2.2]) := by
  refine ⟨by rw [List.length_append]; exact ho, by rw [List.length_append, List.length_append, h.len]; simp; omega, fun j q hj => ?_⟩
  rcases Nat.lt_or_ge j ps.length with hlt | hge
  · rw [List.getElem?_append_left hlt] at hj
    obtain ⟨B1, d1, B2, d2, e1, e2, e3, k1, k2⟩ := h.each j q hj
    have hl := h.len
    exact ⟨B1, d1, B2, d2, by rw [List.getElem?_append_left (by omega)]; exact e1, by rw [List.getElem?_append_left (by omega)]; exact e2, by rw [List.getElem?_append_left (by omega)]; exact e3, k1.kept hg (own_type_ne3 k1 h.own (by decide)), k2.kept hg (own_type_ne3 k2 h.own (by decide))⟩
  · rw [List.getElem?_append_right hge] at hj
    have h0 : j = ps.length := by
      have := (List.getElem?_eq_some_iff.1 hj).1
      simp at this; omega
    subst h0
    rw [Nat.sub_self] at hj
    simp at hj
    subst hj
    have hl := h.len
    refine ⟨A1, c1, A2, c2, ?_, ?_, ?_, h1.kept hg (own_type_ne3 h1 h.own (by decide)), h2.kept hg (own_type_ne3 h2 h.own (by decide))⟩
    · rw [List.getElem?_append_right (by omega), hl, Nat.sub_self]; rfl
    · rw [List.getElem?_append_right (by omega), hl, show ps.length * 3 + 1 - ps.length * 3 = 1 by omega]; rfl
    · rw [List.getElem?_append_right (by omega), hl, show ps.length * 3 + 2 - ps.length * 3 = 2 by omega]; rfl
theorem OwnP.rp {A : Option Addr} {n c : Nat} (h : OwnP base w (.slice A n c) ps cs) (hn : n = ps.length) : Ps w A ps := fun h0 => by
  subst hn
  have hl := h.len
  have h1 : RC w w.heap.size A cs := RC.of_own (n := ps.length) h.own
  obtain ⟨ad, e, hb, hc⟩ := h1 (by omega)
  have hx : ∀ j : Nat, ∃ u v : Option Addr × Nat, ∀ p, ps[j]? = some p → cs[j * 3]? = some (.slice u.1 p.1.length u.2) ∧ cs[j * 3 + 1]? = some (.slice v.1 p.2.1.length v.2) ∧ cs[j * 3 + 2]? = some (.string p.2.2) ∧ RC w w.heap.size u.1 (cellsA p.1) ∧ RC w w.heap.size v.1 (cellsA p.2.1) := fun j => by
    cases hj : ps[j]? with
    | none => exact ⟨(none, 0), (none, 0), fun p hp => by cases hp⟩
    | some p =>
      obtain ⟨A1, c1, A2, c2, e1, e2, e3, k1, k2⟩ := h.each j p hj
      exact ⟨(A1, c1), (A2, c2), fun p' hp => by
        injection hp with hp
        subst hp
        exact ⟨e1, e2, e3, RC.of_own k1, RC.of_own k2⟩⟩
  refine ⟨ad, fun j => (hx j).choose, fun j => (hx j).choose_spec.choose, e, hb, fun j p hj => ?_⟩
  obtain ⟨e1, e2, e3, r1, r2⟩ := (hx j).choose_spec.choose_spec p hj
  exact ⟨hc _ _ e1, hc _ _ e2, hc _ _ e3, r1, r2⟩
end
end Go.Proofs.YthdpojkeceoiiaaGreatDoor
end

section
/- The law's partsOf. Conditions: lists that fit. -/
open Go.RowKit
set_option maxRecDepth 100000
namespace Go.Proofs.YthdpojkeceoiiaaGreatDoor
def cellP (x y : Value) (t : ByteArray) : List Value := [x, y, .string t]
theorem cellP_one {A1 A2 : Option Addr} {n1 c1 n2 c2 : Nat} {t : ByteArray} : ∀ u ∈ ([.slice A1 n1 c1, .slice A2 n2 c2, .string t] : List Value), u.oneCell' = true := by
  intro u hu
  simp only [List.mem_cons, List.not_mem_nil, or_false] at hu
  rcases hu with rfl | rfl | rfl <;> rfl
theorem infoPartR : (Tryz.prog.info? 86).map (fun i => (i.zero, i.size, i.bytes)) = some (some (.agg #[.slice none 0 0, .slice none 0 0, .string ByteArray.empty]), 3, 64) := by kernel_rfl
/-- A row of parts, as it reads. -/
def PartsO (W : World) (ps : List PL) (e : Ending) (w' : World) : Prop := ∃ R c z, Hid (z = ps.length) ∧ e = .returned (.slice R z c) ∧ Ps w' R ps ∧ Bel W w'
set_option maxHeartbeats 8000000 in
theorem partsOf_any {A : Option Addr} {n c : Nat} {qs : List QL} {w : World} (h : Qs w A qs) (hn : n = qs.length) (hl : n ≤ 1000) (hf : ∀ q ∈ qs, LenQ q) : Calls Tryz.prog 19 #[.agg #[.slice A n c]] w (PartsO w (qs.map toP)) := by
  obtain ⟨W1, hW1⟩ : ∃ X, X = w.alloc (.cells #[.slice A n c] 26) := ⟨_, rfl⟩
  have HU : At W1 w.heap.size [.slice A n c] := by rw [hW1]; exact at_new0 _ _ _
  have HB : Bel w W1 := by rw [hW1]; exact (Bel.refl w).al _
  have HN := khide hn
  have HF := khide hf
  have HL : Hid ((qs.map toP).length = n) := by unfold Hid; rw [List.length_map]; exact hn.symm
  have HW := khide hW1
  obtain ⟨i0, hi, hz0, hz1, hz2⟩ := info_parts infoPartR
  have J0 := khide hi; have Y0 := khide hz0; have Y1 := khide hz1; have Y2 := khide hz2
  clear hi hz0 hz1 hz2 hW1 hn hf
  obtain ⟨ps, hps⟩ : ∃ ps, qs.map toP = ps := ⟨_, rfl⟩
  have HPS := khide hps
  rw [hps] at HL ⊢
  clear hps
  replace h := h.up HB.hid
  go_enter Tryz.func19, Tryz.ntmps19
  go_upto_region 1 with fail
  rw [← HW.out]
  go_wp2_with fail
  go_loopw [3, 4] (fun rv iv wr => ∃ (k cp : Nat) (R : Option Addr) (cs : List Value), k ≤ n ∧ iv = .int .i64 (k : Int) ∧ rv = .slice R k cp ∧ Hid (OwnP W1.heap.size wr (.slice R k cp) (ps.take k) cs) ∧ Hid (Below W1.heap.size W1 wr)) (fun _ iv _ => n - (intOf iv).toNat)
  case atStart => exact ⟨0, 0, none, [], Nat.zero_le _, rfl, rfl, OwnP.nil, Below.refl _ _⟩
  case round =>
    obtain ⟨k, cp, R, cs, hk, rfl, rfl, HO, HBr⟩ := hrel
    have HUr := HU.up HBr
    have hu_0 := HUr.c0; have hu_l := HUr.lt
    by_cases hlt : k < n
    · obtain ⟨q, hq⟩ : ∃ q, qs[k]? = some q := ⟨qs[k]'(by rw [← HN.out]; exact hlt), List.getElem?_eq_getElem _⟩
      obtain ⟨ad, v1, v2, v3, rfl, had, a0, a1, a2, HQ⟩ := (h.up HBr).at_ hq
      obtain ⟨p, hp⟩ : ∃ p, toP q = p := ⟨_, rfl⟩
      have HPK : Hid (ps.take (k + 1) = ps.take k ++ [p]) := by
        have hx : k < ps.length := by rw [HL.out]; exact hlt
        have e : ps[k]? = some p := by rw [← HPS.out, List.getElem?_map, hq, ← hp]; rfl
        unfold Hid
        rw [List.take_succ_eq_append_getElem hx]
        rw [List.getElem?_eq_getElem hx] at e
        injection e with e
        rw [e]
      have HTL : Hid ((ps.take k).length = k) := by unfold Hid; rw [List.length_take, HL.out]; omega
      have CP : Hid (Calls Tryz.prog 45 #[.agg #[v1, v2, v3]] wr (PartO wr p)) := hp ▸ partOf_any HQ (HF.out q (List.mem_of_getElem? hq))
      obtain ⟨A1, c1, A2, c2, A3, c3, rfl, rfl, rfl, -⟩ := HQ.open_
      obtain ⟨l1, l2, t⟩ := p
      have HBS : Hid (W1.heap.size ≤ wr.heap.size) := HBr.out.size
      have k0 : (0 : Int) ≤ (k : Int) := by omega
      have k1 : (k : Int) < (n : Int) := by omega
      have HOW : Hid (wr.ownsRow W1.heap.size 86 3 (.slice R k cp) k cs) := by
        have h9 := HO.out.own
        rw [HTL.out] at h9
        exact h9
      clear hq hp HQ
      unfold PartO at CP
      dsimp only at CP
      go_wp2_with (first | (go_at_call 45; (with_reducible refine (CP.out).mono ?_); rintro e w2 ⟨B1, d1, B2, d2, rfl, HO1, HO2, hb2⟩) | (at_builtin; go_must (refine wpList_append_own _ rfl (.tmp 12) (.tmp 19) 45 rfl W1.heap.size 86 i0 (.agg #[.slice none 0 0, .slice none 0 0, .string ByteArray.empty]) 3 64 Tryz.underlying45 J0.out Y0.out Y1.out Y2.out rfl (by decide) _ _ _ rfl ((own_up HOW.out hb2.hid).alloc _) ⟨w2.heap.size, 0, none⟩ 1 1 [.slice B1 l1.length d1, .slice B2 l2.length d2, .string t] rfl rfl (at_news (at_new0 _ _ _)) cellP_one (by simp only [maxLen]; omega) (by omega) (Nat.le_trans HBS.out (Nat.le_trans hb2.size (by simp))) ?_); intro v1 w3 ho1 hg1 hn1; clear hn1) | fail)
      have hg2 : (w2.alloc (.cells #[.slice B1 l1.length d1, .slice B2 l2.length d2, .string t] 86)).grownBy w3 (Value.slice R k cp).ownBlock := hg1
      have HO2u := own_up HOW.out hb2.hid
      have HB2 : Hid (Below W1.heap.size W1 w2) := HBr.out.trans (hb2.mono HBS.out)
      have HB3 : Hid (Below W1.heap.size W1 w3) := (HB2.out.alloc HB2.out.size _).grown hg2 (HB2.out.alloc HB2.out.size _).size (fun g' e => (HO2u.lt g' e).1)
      obtain ⟨R2, cp2, rfl, _⟩ := own_slice ho1
      have HA := fun o => (HO.out.up hb2.hid).up (w' := w2.alloc o) ((Below.refl _ _).alloc (Nat.le_refl _) o)
      have HM := OwnP.more (p := (l1, l2, t)) (HA _) (by rw [HTL.out]; exact ho1) hg2 ((own_base HO1.out HBS.out).alloc _) ((own_base HO2.out HBS.out).alloc _)
      have HO3 := khide HM
      clear hg1 hg2 ho1 HO2u HA HM
      go_roundw
      case rel =>
        refine ⟨k + 1, cp2, R2, cs ++ [.slice B1 l1.length d1, .slice B2 l2.length d2, .string t], by omega, by go_num, rfl, ?_, HB3⟩
        rw [HPK.out]
        exact HO3
      case measure => simp [intOf]; omega
    · obtain rfl : k = n := by omega
      go_wp2
      go_ret
      have h3 := HO.out
      rw [List.take_of_length_le (by rw [HL.out]; exact Nat.le_refl _)] at h3
      exact ⟨R, cp, k, HL.out.symm, rfl, h3.rp HL.out.symm, HB.up (HBr.out.mono (Nat.le_refl _) |> khide)⟩
end Go.Proofs.YthdpojkeceoiiaaGreatDoor
end
