/- The law UnitKnown. No conditions. -/
import Derived.Test.YthdpojkeceoiiaaGreatDoorGOmc31
import Derived.Deep.RegionHeld
import Derived.Deep.CutRange
open Go.RowKit
set_option maxRecDepth 100000
namespace Go.Proofs.YthdpojkeceoiiaaGreatDoor
/-- A block's cells, as they are read. -/
def Ce (W : World) (p : Nat) (vs : List Value) : Prop := Hid (p < W.heap.size ∧ ∀ i v, vs[i]? = some v → W.cell? ⟨p, i, none⟩ = some v)
section
variable {W W' : World} {p : Nat} {vs : List Value} {u v x : Value}
theorem Ce.up (h : Ce W p vs) (hb : Hid (Below W.heap.size W W')) : Ce W' p vs := ⟨Nat.lt_of_lt_of_le h.out.1 hb.out.size, fun i v hv => (hb.out.cell (p := ⟨p, i, none⟩) h.out.1).trans (h.out.2 i v hv)⟩
theorem Ce.al (h : Ce W p vs) (o : Obj) : Ce (W.alloc o) p vs := h.up ((Below.refl _ _).alloc (Nat.le_refl _) o)
theorem Ce.dr (h : Ce W p vs) : Ce W.drew p vs := h
theorem Ce.far (h : Ce W p vs) {q i : Nat} (hq : q ≠ p) (u : Value) : Ce (W.setCell ⟨q, i, none⟩ u) p vs := ⟨by have := h.out.1; simpa [World.setCell] using this, fun j v hv => (World.cell?_setCell_far _ _ _ _ hq).trans (h.out.2 j v hv)⟩
theorem Ce.ci (h : Ce W p vs) {i : Nat} (hi : vs[i]? = some v) : W.cell? ⟨p, i, none⟩ = some v := h.out.2 i v hi
end
theorem unitD_facts {names ps : List ByteArray} {s : ByteArray} {r : List PL} (hD : unitD names ps s = .ok r) : (∀ q ∈ r.map ofP, FitN q) ∧ (∀ q ∈ r.map ofP, Good32 q.2.2) ∧ (r.map ofP).any greatQ = false ∧ (r.map ofP).map toP = r ∧ r.length ≤ 4 := by
  obtain ⟨k1, k2, k3, k4⟩ := unitD_ok hD
  have hok := partsL_ok k3
  have hpw := partsL_pow k3
  refine ⟨fun q hq => ?_, fun q hq => ?_, greats_of k3 (fun l hl x hx => goodAll_size k2 x (cutBy_mem _ l hl x hx)), map_back (fun p hp => (hok p hp).1), k4⟩
  · obtain ⟨p, hp, rfl⟩ := List.mem_map.1 hq
    have h8 := (hok p hp).2
    exact ⟨by show p.1.length ≤ 12; omega, by show p.2.1.length ≤ 12; omega, (hpw p hp).1.pows, (hpw p hp).2.pows⟩
  · obtain ⟨p, _, rfl⟩ := List.mem_map.1 hq
    exact digs_good _
/-- A part's cells. -/
abbrev PX (s : ByteArray) (n : Nat) (qs : List QL) : Prop := ∀ (W : World) (A B : Option Addr), Ss W A uN → Ss W B uP → Calls Tryz.prog 8 #[.agg #[.slice A 3 3, .slice B 2 2], .string s] W (fun e w' => ∃ g c, e = .returned (.tuple #[.agg #[.slice (some ⟨g, 0, none⟩) n c], .int .i64 0]) ∧ Qs w' (some ⟨g, 0, none⟩) qs ∧ Bel W w')
abbrev SX (s : ByteArray) (n : Nat) (qs : List QL) : Prop := ∀ (W : World) (g c : Nat), Qs W (some ⟨g, 0, none⟩) qs → Calls Tryz.prog 11 #[.agg #[.slice (some ⟨g, 0, none⟩) n c]] W (StrR W s)
theorem pX_ok {s : ByteArray} {r : List PL} {n : Nat} (hD : unitD uN uP s = .ok r) (hn : r.length = n) : PX s n (r.map ofP) := fun W A B h h' => by
  have h9 := uparse_any (s := s) (c := 3) (d := 2) h rfl (by decide) h' rfl (by decide)
  rw [hD] at h9
  refine h9.mono fun e w' h8 => ?_
  obtain ⟨g, c, e1, _, e3, e4, e5⟩ := h8
  exact ⟨g, c, hn ▸ e1, e4, e5⟩
theorem sX_ok {s : ByteArray} {r : List PL} {n : Nat} (hD : unitD uN uP s = .ok r) (hn : r.length = n) : SX s n (r.map ofP) := fun W g c h => by
  obtain ⟨_, hw, hgr, hmap, h4⟩ := unitD_facts hD
  have h9 := great_show (e := c) h (show n = (r.map ofP).length by rw [List.length_map, hn]) (by omega) hgr hw
  rwa [hmap, unit_back hD] at h9
theorem qs_one {W : World} {g : Nat} {q : QL} {qs : List QL} {k : Nat} (h : Qs W (some ⟨g, 0, none⟩) qs) (hk : qs[k]? = some q) : ∃ v1 v2 v3, g < W.heap.size ∧ W.cell? ⟨g, k * 3, none⟩ = some v1 ∧ W.cell? ⟨g, k * 3 + 1, none⟩ = some v2 ∧ W.cell? ⟨g, k * 3 + 2, none⟩ = some v3 ∧ Q1 W v1 v2 v3 q := by
  have hl : k < qs.length := (List.getElem?_eq_some_iff.1 hk).1
  obtain ⟨ad, e, hb, hc⟩ := h.out (by omega)
  cases e
  obtain ⟨v1, v2, v3, h1, h2, h3, h4⟩ := hc k q hk
  rw [plain_add3] at h1 h2 h3
  exact ⟨v1, v2, v3, hb, h1, h2, h3, h4⟩
theorem prM_two : partS (([], [], oneB) : PL) = partS ([], [], oneB) := rfl
theorem kxL_S : partS (prM.getD 1 ([], [], oneB)) = kxL := by decide +kernel
theorem kx100_D : nuOf kx100 = 100 := by decide +kernel
theorem kx100_T : kx100.data.toList = decL 100 := by decide +kernel
set_option maxHeartbeats 16000000 in
theorem uknown_any (w : World) : Calls Tryz.prog 3 #[] w (RetB w true) := by
  have CA : Hid (∀ W : World, Calls Tryz.prog 7 #[] W (RetB W true)) := awake10_h
  have CM : Hid (∀ W : World, Calls Tryz.prog 9 #[] W (SomeU W)) := some10_h
  have CE : Hid (∀ (W : World) (A B : Option Addr) (k : Nat) (s : ByteArray), badU[k]? = some s → Ss W A uN → Ss W B uP → Calls Tryz.prog 8 #[.agg #[.slice A 3 3, .slice B 2 2], .string s] W (fun e w' => e = .returned (.tuple #[.agg #[.slice none 0 0], .int .i64 2]) ∧ Bel W w')) := fun W A B k s hk h h' => by
    have h9 := uparse_any (s := s) (c := 3) (d := 2) h rfl (by decide) h' rfl (by decide)
    rw [badU_D hk] at h9
    exact h9
  have CPA : Hid (PX ⟨#[112, 101, 114, 45, 49, 48, 48, 45, 107, 105, 108, 111, 109, 101, 116, 101, 114]⟩ 1 (prA.map ofP)) := pX_ok kxA_D rfl
  have CPB : Hid (PX ⟨#[115, 101, 99, 111, 110, 100, 45, 115, 113, 117, 97, 114, 101, 45, 109, 101, 116, 101, 114, 45, 115, 101, 99, 111, 110, 100, 45, 112, 101, 114, 45, 103, 114, 97, 109, 45, 109, 101, 116, 101, 114, 45, 103, 114, 97, 109]⟩ 1 (prB.map ofP)) := pX_ok kxB_D rfl
  have CPD : Hid (PX ⟨#[112, 111, 119, 49, 48, 45, 109, 101, 116, 101, 114, 45, 112, 111, 119, 49, 48, 45, 109, 101, 116, 101, 114]⟩ 1 (prD.map ofP)) := pX_ok kxD_D rfl
  have CPJ : Hid (PX ⟨#[112, 101, 114, 45, 54, 48]⟩ 1 (prJ.map ofP)) := pX_ok kxJ_D rfl
  have CPM : Hid (PX ⟨#[109, 101, 116, 101, 114, 45, 97, 110, 100, 45, 109, 105, 108, 108, 105, 109, 101, 116, 101, 114]⟩ 2 (prM.map ofP)) := pX_ok kxM_D rfl
  have CSA : Hid (SX ⟨#[112, 101, 114, 45, 49, 48, 48, 45, 107, 105, 108, 111, 109, 101, 116, 101, 114]⟩ 1 (prA.map ofP)) := sX_ok kxA_D rfl
  have CSJ : Hid (SX ⟨#[112, 101, 114, 45, 54, 48]⟩ 1 (prJ.map ofP)) := sX_ok kxJ_D rfl
  have CNB : Hid (∀ (W : World) (g c : Nat), Qs W (some ⟨g, 0, none⟩) (prB.map ofP) → Calls Tryz.prog 10 #[.agg #[.slice (some ⟨g, 0, none⟩) 1 c]] W (fun e w' => ∃ g' c', e = .returned (.tuple #[.agg #[.slice (some ⟨g', 0, none⟩) 1 c'], .int .i64 0]) ∧ Qs w' (some ⟨g', 0, none⟩) (prC.map ofP) ∧ Bel W w')) := fun W g c h => by
    refine (norm_any (c := c) h rfl (by decide) (unitD_facts kxB_D).1 normB).mono fun e w' ⟨g', c', e1, e2, e3⟩ => ⟨g', c', e1, e2, e3⟩
  have CND : Hid (∀ (W : World) (g c : Nat), Qs W (some ⟨g, 0, none⟩) (prD.map ofP) → Calls Tryz.prog 10 #[.agg #[.slice (some ⟨g, 0, none⟩) 1 c]] W (fun e w' => e = .returned (.tuple #[.agg #[.slice none 0 0], .int .i64 11]) ∧ Bel W w')) := fun W g c h => norm_any (c := c) h rfl (by decide) (unitD_facts kxD_D).1 normD
  have CSC : Hid (SX ⟨#[115, 113, 117, 97, 114, 101, 45, 109, 101, 116, 101, 114, 45, 115, 113, 117, 97, 114, 101, 45, 115, 101, 99, 111, 110, 100, 45, 112, 101, 114, 45, 115, 113, 117, 97, 114, 101, 45, 103, 114, 97, 109, 45, 109, 101, 116, 101, 114]⟩ 1 (prC.map ofP)) := fun W g c h => by
    obtain ⟨_, hw, hgr, _, _⟩ := unitD_facts kxB_D
    obtain ⟨_, h2, h3⟩ := normQs_great normB hgr hw
    have h9 := great_show (e := c) h rfl (by decide) h2 h3
    have e : (prC.map ofP).map toP = prC := map_back (fun p hp => by
      obtain rfl : p = _ := List.mem_singleton.1 hp
      exact oneB_num)
    rw [e, prC_S] at h9
    exact h9
  have CGM : Hid (∀ (W : World) (A B : Option Addr) (g c : Nat), Ss W A uN → Ss W B uP → Qs W (some ⟨g, 0, none⟩) (prM.map ofP) → Calls Tryz.prog 13 #[.agg #[.slice A 3 3, .slice B 2 2], .agg #[.slice (some ⟨g, 0, none⟩) 2 c]] W (RetB W true)) := fun W A B g c h1 h2 h3 => by
    obtain ⟨hf, hw, hgr, _, h4⟩ := unitD_facts kxM_D
    have h9 := ugood_any (c := 3) (d := 2) (e := c) h1 rfl (by decide) h2 rfl (by decide) h3 rfl (fun q hq => by
      have hg : greatQ q = false := by simpa using List.any_eq_false.1 hgr q hq
      obtain ⟨f1, f2, _, _⟩ := hf q hq
      unfold greatQ at hg
      simp only [Bool.or_eq_false_iff] at hg
      exact ⟨⟨by omega, fun a ha => by
        have h9 := List.any_eq_false.1 hg.2.2.1 a ha
        unfold longA at h9
        simp only [decide_eq_true_eq] at h9
        omega⟩, ⟨by omega, fun a ha => by
        have h9 := List.any_eq_false.1 hg.2.2.2 a ha
        unfold longA at h9
        simp only [decide_eq_true_eq] at h9
        omega⟩⟩) hw
    rwa [goodU_back kxM_D] at h9
  have CGN : Hid (∀ (W : World) (A B : Option Addr), Ss W A uN → Ss W B uP → Calls Tryz.prog 13 #[.agg #[.slice A 3 3, .slice B 2 2], .agg #[.slice none 0 0]] W (RetB W false)) := fun W A B h1 h2 => by
    have h9 := ugood_any (c := 3) (d := 2) (e := 0) (C := none) (z := 0) (qs := []) h1 rfl (by decide) h2 rfl (by decide) Qs.nil rfl (fun q hq => by cases hq) (fun q hq => by cases hq)
    rwa [goodNo] at h9
  have CT : Hid (∀ (W : World) (A : Option Addr) (n c : Nat), Nm W A n c 100 → Calls Tryz.prog 12 #[.agg #[.slice A n c]] W (TextR W ⟨#[49, 48, 48]⟩)) := fun W A n c h => text_r h kx100_T
  have CL : Hid (∀ (W : World) (v1 v2 v3 : Value), Q1 W v1 v2 v3 (ofP (prM.getD 1 ([], [], oneB))) → Calls Tryz.prog 14 #[.agg #[v1, v2, v3]] W (StrR W ⟨#[109, 105, 108, 108, 105, 109, 101, 116, 101, 114]⟩)) := fun W v1 v2 v3 h => by
    obtain ⟨hf, hw, hgr, hmap, h4⟩ := unitD_facts kxM_D
    have hq : ofP (prM.getD 1 ([], [], oneB)) ∈ prM.map ofP := by simp [prM]
    have hg : greatQ (ofP (prM.getD 1 ([], [], oneB))) = false := by simpa using List.any_eq_false.1 hgr _ hq
    have h9 := ushow_part h (great_fit hg (hw _ hq)).1
    rw [toP_ofP (show okP (prM.getD 1 ([], [], oneB)) from oneB_num), kxL_S] at h9
    exact h9
  have HB := Bel.refl w
  go_enter Tryz.func3, Tryz.ntmps3
  go_upto_region 4 with (first | (go_at_call 7; (with_reducible refine (CA.out _).mono ?_); rintro e w1 ⟨rfl, hb⟩; replace HB := HB.up hb.hid) | fail)
  refine kwp_named ?_
  intro W2 hW2
  have HL : Ce W2 w1.heap.size (badU.map Value.string) := by
    rw [hW2]
    have h9 := at_new0 w1 (badU.map Value.string) 9
    exact ⟨h9.lt, fun i v hv => h9.ci hv⟩
  have HB2 : Bel w W2 := by rw [hW2]; exact HB.al _
  obtain ⟨pl, hpl⟩ : ∃ p, p = w1.heap.size := ⟨_, rfl⟩
  rw [← hpl] at HL
  rw [← hpl]
  clear hW2 hpl HB hb
  go_wp2_with fail
  go_loopw [2] (fun iv wr => ∃ k : Nat, k ≤ 15 ∧ iv = .int .i64 (k : Int) ∧ Hid (Below W2.heap.size W2 wr)) (fun iv _ => 15 - (intOf iv).toNat)
  case atStart => exact ⟨0, Nat.zero_le _, rfl, Below.refl _ _⟩
  case round =>
    obtain ⟨k, hk, rfl, HBR⟩ := hrel
    by_cases hlt : k < 15
    · obtain ⟨s, hs⟩ : ∃ s, badU[k]? = some s := ⟨badU[k]'hlt, List.getElem?_eq_getElem _⟩
      have hc : wr.cell? ⟨pl, k, none⟩ = some (.string s) := (HL.up HBR).ci (by rw [List.getElem?_map, hs]; rfl)
      have HLC := HL.up HBR
      have CE2 : Hid (∀ (W : World) (A B : Option Addr), Ss W A uN → Ss W B uP → Calls Tryz.prog 8 #[.agg #[.slice A 3 3, .slice B 2 2], .string s] W (fun e w' => e = .returned (.tuple #[.agg #[.slice none 0 0], .int .i64 2]) ∧ Bel W w')) := fun W A B h h' => CE.out W A B k s hs h h'
      have k0 : (0 : Int) ≤ (k : Int) := by omega
      have k1 : (k : Int) < 15 := by omega
      have HGK : Hid ((badU.map Value.string)[k]? = some (.string s)) := by unfold Hid; rw [List.getElem?_map, hs]; rfl
      clear hs
      go_upto_region 7 with fail
      go_cut [3, 4] from 28 to 36 (fun o v w' => ∃ pb, o = .pointer (some ⟨pb, 0, none⟩) ∧ v = .int .i64 2 ∧ Bel wr w')
      case first =>
        have HW := Bel.refl wr
        have lza := HLC.out.1
        go_region_held3 (fun w' => w'.cell? ⟨pl, k, none⟩ = some (.string s))
          (refine (?_ : Ce _ pl (badU.map Value.string)).ci HGK.out <;> (repeat (first | with_reducible exact HLC | (with_reducible refine Ce.dr ?_) | (with_reducible refine Ce.al ?_ _) | (with_reducible refine Ce.far ?_ (by omega) _))))
          (first | (go_at_call 9; (with_reducible refine (CM.out _).mono ?_); rintro e w5 ⟨A, B, rfl, HN, HP, hbk⟩; replace hbk := Bel.hid hbk; (with_reducible (replace HW := HW.dr.up hbk; replace HLC := HLC.dr.up hbk)); have lz0 := HLC.out.1; have zs1 := Below.size HW; (try have lz9 := HX0.lt)) | (go_at_call 9; (with_reducible refine (CM.out _).mono ?_); rintro e w5 ⟨A, B, rfl, HN, HP, hbk⟩; replace hbk := Bel.hid hbk; (with_reducible (have HX0 := At.up (at_new0 _ [.slice none 0 0] _).dr hbk; replace HW := (HW.al _).dr.up hbk; replace HLC := (HLC.al _).dr.up hbk)); have lz0 := HLC.out.1; have zs1 := Below.size HW; (try have lz9 := HX0.lt)) | (go_at_call 8; (with_reducible refine (CE2.out _ _ _ HN HP).mono ?_); rintro e w7 ⟨rfl, hbk⟩; replace hbk := Bel.hid hbk; (with_reducible (replace HW := HW.up hbk; replace HLC := HLC.up hbk)); (try (with_reducible replace HX0 := HX0.up hbk)); (try have hx_0 := HX0.c0); (try have hx_f0 := HX0.f0); (try have hx_l := HX0.lt); have zs3 := Below.size HW) | (go_at_call 8; (with_reducible refine (CE2.out _ _ _ (HN.al _) (HP.al _)).mono ?_); rintro e w7 ⟨rfl, hbk⟩; replace hbk := Bel.hid hbk; (with_reducible (have HX0 := At.up (at_new0 _ [.slice none 0 0] _) hbk; replace HW := (HW.al _).up hbk; replace HLC := (HLC.al _).up hbk)); (try (with_reducible replace HX0 := (HX0.al _).up hbk)); (try have hx_0 := HX0.c0); (try have hx_f0 := HX0.f0); (try have hx_l := HX0.lt); have zs3 := Below.size HW) | fail)
        all_goals
          go_wp2_with fail
          go_meet
          case rel => refine ⟨_, rfl, rfl, ?_⟩ <;> (repeat (first | with_reducible exact HW | (with_reducible refine Bel.dr ?_) | (with_reducible refine Bel.al ?_ _) | (with_reducible refine Bel.putq ?_ (by omega) _)))
      case rest =>
        obtain ⟨pb, rfl, rfl, hW⟩ := hcut
        clear hc
        have HB9 : Hid (Below W2.heap.size W2 wc) := HBR.out.trans (Below.mono hW HBR.out.size)
        by_cases h0 : k = 0
        · have dk : ((k : Int) == 0) = true := by rw [h0]; rfl
          have dg : decide ((0 : Int) < (k : Int)) = false := decide_eq_false (by omega)
          clear h0 HLC HBR hW
          go_wp2_with fail
          go_roundw
          case rel => exact ⟨k + 1, by omega, by go_num, HB9⟩
          case measure => simp [intOf]; omega
        · have dk : ((k : Int) == 0) = false := by rw [beq_eq_false_iff_ne]; omega
          have dg : decide ((0 : Int) < (k : Int)) = true := decide_eq_true (by omega)
          clear h0 HLC HBR hW
          go_wp2_with fail
          go_roundw
          case rel => exact ⟨k + 1, by omega, by go_num, HB9⟩
          case measure => simp [intOf]; omega
    · obtain rfl : k = 15 := by omega
      have HB : Bel w wr := Bel.up HB2 HBR
      clear HBR HL HB2 CE hk hlt
      go_upto_region 11 with (first | (go_at_call 9; (with_reducible refine (CM.out _).mono ?_); rintro e w2 ⟨A, B, rfl, HN, HP, hb⟩; replace HB := HB.up hb.hid) | (go_at_call 8; (with_reducible refine (CPA.out _ _ _ HN HP).mono ?_); rintro e w3 ⟨gA, cA, rfl, HQA, hb⟩; replace HB := HB.up hb.hid; clear HN HP) | fail)
      refine kwp_named ?_
      intro WA hW
      have HXA : At WA w3.heap.size [.slice (some ⟨gA, 0, none⟩) 1 cA] := by rw [hW]; exact at_new0 _ _ _
      have HB9 := HB.al (.cells #[.slice (some ⟨gA, 0, none⟩) 1 cA] 26); rw [← hW] at HB9; replace HB := HB9; clear HB9
      have HQA9 := HQA.al (.cells #[.slice (some ⟨gA, 0, none⟩) 1 cA] 26); rw [← hW] at HQA9; replace HQA := HQA9; clear HQA9
      obtain ⟨pA, hpA⟩ : ∃ p, p = w3.heap.size := ⟨_, rfl⟩
      rw [← hpA] at HXA
      rw [← hpA]
      clear hW hpA hb
      obtain ⟨va1, va2, va3, hga, a0, a1, a2, hqa⟩ := qs_one (k := 0) HQA rfl
      obtain ⟨A1, d1, A2, d2, A3, d3, rfl, rfl, rfl, b1, b2, b3, b4, r1, r2, HNA, -, -⟩ := hqa.open_
      rw [show val W32 (ofP (([], [((⟨#[107, 105, 108, 111]⟩ : ByteArray), (⟨#[109, 101, 116, 101, 114]⟩ : ByteArray), (1 : Int))], (⟨#[49, 48, 48]⟩ : ByteArray)) : PL)).2.2 = 100 from by show val W32 (digs W32 (nuOf kx100)) = 100; rw [val_digs (by decide), kx100_D]] at HNA
      obtain ⟨na, hna⟩ : ∃ n, n = (ofP (([], [((⟨#[107, 105, 108, 111]⟩ : ByteArray), (⟨#[109, 101, 116, 101, 114]⟩ : ByteArray), (1 : Int))], (⟨#[49, 48, 48]⟩ : ByteArray)) : PL)).2.2.length := ⟨_, rfl⟩
      rw [← hna] at HNA a2
      have HCA : Ce WA gA [.slice A1 0 d1, .slice A2 1 d2, .slice A3 na d3] := ⟨hga, fun i v hv => by
        match i, hv with
        | 0, hv => cases hv; exact a0
        | 1, hv => cases hv; exact a1
        | 2, hv => cases hv; exact a2⟩
      clear hna a0 a1 a2 hqa b1 b2 b3 b4 r1 r2 hga
      go_upto_region 12 with (first | (go_at_call 9; (with_reducible refine (CM.out _).mono ?_); rintro e w2 ⟨A, B, rfl, HN, HP, hb⟩; replace HB := HB.up hb.hid; replace HQA := HQA.up hb.hid; replace HXA := HXA.up hb.hid; replace HNA := HNA.up hb.hid; replace HCA := HCA.up hb.hid) | (go_at_call 8; (with_reducible refine (CPB.out _ _ _ HN HP).mono ?_); rintro e w3 ⟨gB, cB, rfl, HQB, hb⟩; replace HB := HB.up hb.hid; replace HQA := HQA.up hb.hid; replace HXA := HXA.up hb.hid; replace HNA := HNA.up hb.hid; replace HCA := HCA.up hb.hid; clear HN HP) | fail)
      refine kwp_named ?_
      intro WB hW
      have HXB : At WB w3.heap.size [.slice (some ⟨gB, 0, none⟩) 1 cB] := by rw [hW]; exact at_new0 _ _ _
      have HB9 := HB.al (.cells #[.slice (some ⟨gB, 0, none⟩) 1 cB] 26); rw [← hW] at HB9; replace HB := HB9; clear HB9
      have HQA9 := HQA.al (.cells #[.slice (some ⟨gB, 0, none⟩) 1 cB] 26); rw [← hW] at HQA9; replace HQA := HQA9; clear HQA9
      have HXA9 := HXA.al (.cells #[.slice (some ⟨gB, 0, none⟩) 1 cB] 26); rw [← hW] at HXA9; replace HXA := HXA9; clear HXA9
      have HNA9 := HNA.al (.cells #[.slice (some ⟨gB, 0, none⟩) 1 cB] 26); rw [← hW] at HNA9; replace HNA := HNA9; clear HNA9
      have HCA9 := HCA.al (.cells #[.slice (some ⟨gB, 0, none⟩) 1 cB] 26); rw [← hW] at HCA9; replace HCA := HCA9; clear HCA9
      have HQB9 := HQB.al (.cells #[.slice (some ⟨gB, 0, none⟩) 1 cB] 26); rw [← hW] at HQB9; replace HQB := HQB9; clear HQB9
      obtain ⟨pB, hpB⟩ : ∃ p, p = w3.heap.size := ⟨_, rfl⟩
      rw [← hpB] at HXB
      rw [← hpB]
      clear hW hpB hb
      have hx_0 := HXB.c0; have hx_l := HXB.lt
      go_upto_region 13 with (first | (go_at_call 10; (with_reducible refine (CNB.out _ _ _ HQB).mono ?_); rintro e w3 ⟨gC, cC, rfl, HQC, hb⟩; clear hx_0 hx_l; replace HB := HB.up hb.hid; replace HQA := HQA.up hb.hid; replace HXA := HXA.up hb.hid; replace HNA := HNA.up hb.hid; replace HCA := HCA.up hb.hid) | fail)
      refine kwp_named ?_
      intro WC hW
      have HXC : At WC w3.heap.size [.slice (some ⟨gC, 0, none⟩) 1 cC] := by rw [hW]; exact at_new0 _ _ _
      have HB9 := HB.al (.cells #[.slice (some ⟨gC, 0, none⟩) 1 cC] 26); rw [← hW] at HB9; replace HB := HB9; clear HB9
      have HQA9 := HQA.al (.cells #[.slice (some ⟨gC, 0, none⟩) 1 cC] 26); rw [← hW] at HQA9; replace HQA := HQA9; clear HQA9
      have HXA9 := HXA.al (.cells #[.slice (some ⟨gC, 0, none⟩) 1 cC] 26); rw [← hW] at HXA9; replace HXA := HXA9; clear HXA9
      have HNA9 := HNA.al (.cells #[.slice (some ⟨gC, 0, none⟩) 1 cC] 26); rw [← hW] at HNA9; replace HNA := HNA9; clear HNA9
      have HCA9 := HCA.al (.cells #[.slice (some ⟨gC, 0, none⟩) 1 cC] 26); rw [← hW] at HCA9; replace HCA := HCA9; clear HCA9
      have HQC9 := HQC.al (.cells #[.slice (some ⟨gC, 0, none⟩) 1 cC] 26); rw [← hW] at HQC9; replace HQC := HQC9; clear HQC9
      obtain ⟨pC, hpC⟩ : ∃ p, p = w3.heap.size := ⟨_, rfl⟩
      rw [← hpC] at HXC
      rw [← hpC]
      clear hW hpC hb
      clear HXB HQB
      go_upto_region 14 with (first | (go_at_call 9; (with_reducible refine (CM.out _).mono ?_); rintro e w2 ⟨A, B, rfl, HN, HP, hb⟩; replace HB := HB.up hb.hid; replace HQA := HQA.up hb.hid; replace HXA := HXA.up hb.hid; replace HNA := HNA.up hb.hid; replace HCA := HCA.up hb.hid; replace HQC := HQC.up hb.hid; replace HXC := HXC.up hb.hid) | (go_at_call 8; (with_reducible refine (CPD.out _ _ _ HN HP).mono ?_); rintro e w3 ⟨gD, cD, rfl, HQD, hb⟩; replace HB := HB.up hb.hid; replace HQA := HQA.up hb.hid; replace HXA := HXA.up hb.hid; replace HNA := HNA.up hb.hid; replace HCA := HCA.up hb.hid; replace HQC := HQC.up hb.hid; replace HXC := HXC.up hb.hid; clear HN HP) | fail)
      refine kwp_named ?_
      intro WD hW
      have HXD : At WD w3.heap.size [.slice (some ⟨gD, 0, none⟩) 1 cD] := by rw [hW]; exact at_new0 _ _ _
      have HB9 := HB.al (.cells #[.slice (some ⟨gD, 0, none⟩) 1 cD] 26); rw [← hW] at HB9; replace HB := HB9; clear HB9
      have HQA9 := HQA.al (.cells #[.slice (some ⟨gD, 0, none⟩) 1 cD] 26); rw [← hW] at HQA9; replace HQA := HQA9; clear HQA9
      have HXA9 := HXA.al (.cells #[.slice (some ⟨gD, 0, none⟩) 1 cD] 26); rw [← hW] at HXA9; replace HXA := HXA9; clear HXA9
      have HNA9 := HNA.al (.cells #[.slice (some ⟨gD, 0, none⟩) 1 cD] 26); rw [← hW] at HNA9; replace HNA := HNA9; clear HNA9
      have HCA9 := HCA.al (.cells #[.slice (some ⟨gD, 0, none⟩) 1 cD] 26); rw [← hW] at HCA9; replace HCA := HCA9; clear HCA9
      have HQC9 := HQC.al (.cells #[.slice (some ⟨gD, 0, none⟩) 1 cD] 26); rw [← hW] at HQC9; replace HQC := HQC9; clear HQC9
      have HXC9 := HXC.al (.cells #[.slice (some ⟨gD, 0, none⟩) 1 cD] 26); rw [← hW] at HXC9; replace HXC := HXC9; clear HXC9
      have HQD9 := HQD.al (.cells #[.slice (some ⟨gD, 0, none⟩) 1 cD] 26); rw [← hW] at HQD9; replace HQD := HQD9; clear HQD9
      obtain ⟨pD, hpD⟩ : ∃ p, p = w3.heap.size := ⟨_, rfl⟩
      rw [← hpD] at HXD
      rw [← hpD]
      clear hW hpD hb
      have hx_0 := HXD.c0; have hx_l := HXD.lt
      go_upto_region 15 with (first | (go_at_call 10; (with_reducible refine (CND.out _ _ _ HQD).mono ?_); rintro e w3 ⟨rfl, hb⟩; clear hx_0 hx_l; replace HB := HB.up hb.hid; replace HQA := HQA.up hb.hid; replace HXA := HXA.up hb.hid; replace HNA := HNA.up hb.hid; replace HCA := HCA.up hb.hid; replace HQC := HQC.up hb.hid; replace HXC := HXC.up hb.hid) | fail)
      refine kwp_named ?_
      intro WE hW
      have HXE : At WE w3.heap.size [.slice none 0 0] := by rw [hW]; exact at_new0 _ _ _
      have HB9 := HB.al (.cells #[.slice none 0 0] 26); rw [← hW] at HB9; replace HB := HB9; clear HB9
      have HQA9 := HQA.al (.cells #[.slice none 0 0] 26); rw [← hW] at HQA9; replace HQA := HQA9; clear HQA9
      have HXA9 := HXA.al (.cells #[.slice none 0 0] 26); rw [← hW] at HXA9; replace HXA := HXA9; clear HXA9
      have HNA9 := HNA.al (.cells #[.slice none 0 0] 26); rw [← hW] at HNA9; replace HNA := HNA9; clear HNA9
      have HCA9 := HCA.al (.cells #[.slice none 0 0] 26); rw [← hW] at HCA9; replace HCA := HCA9; clear HCA9
      have HQC9 := HQC.al (.cells #[.slice none 0 0] 26); rw [← hW] at HQC9; replace HQC := HQC9; clear HQC9
      have HXC9 := HXC.al (.cells #[.slice none 0 0] 26); rw [← hW] at HXC9; replace HXC := HXC9; clear HXC9
      obtain ⟨pE, hpE⟩ : ∃ p, p = w3.heap.size := ⟨_, rfl⟩
      rw [← hpE] at HXE
      rw [← hpE]
      clear hW hpE hb
      clear HXD HQD
      clear HXE
      go_upto_region 16 with (first | (go_at_call 9; (with_reducible refine (CM.out _).mono ?_); rintro e w2 ⟨A, B, rfl, HN, HP, hb⟩; replace HB := HB.up hb.hid; replace HQA := HQA.up hb.hid; replace HXA := HXA.up hb.hid; replace HNA := HNA.up hb.hid; replace HCA := HCA.up hb.hid; replace HQC := HQC.up hb.hid; replace HXC := HXC.up hb.hid) | (go_at_call 8; (with_reducible refine (CPJ.out _ _ _ HN HP).mono ?_); rintro e w3 ⟨gJ, cJ, rfl, HQJ, hb⟩; replace HB := HB.up hb.hid; replace HQA := HQA.up hb.hid; replace HXA := HXA.up hb.hid; replace HNA := HNA.up hb.hid; replace HCA := HCA.up hb.hid; replace HQC := HQC.up hb.hid; replace HXC := HXC.up hb.hid; clear HN HP) | fail)
      refine kwp_named ?_
      intro WJ hW
      have HXJ : At WJ w3.heap.size [.slice (some ⟨gJ, 0, none⟩) 1 cJ] := by rw [hW]; exact at_new0 _ _ _
      have HB9 := HB.al (.cells #[.slice (some ⟨gJ, 0, none⟩) 1 cJ] 26); rw [← hW] at HB9; replace HB := HB9; clear HB9
      have HQA9 := HQA.al (.cells #[.slice (some ⟨gJ, 0, none⟩) 1 cJ] 26); rw [← hW] at HQA9; replace HQA := HQA9; clear HQA9
      have HXA9 := HXA.al (.cells #[.slice (some ⟨gJ, 0, none⟩) 1 cJ] 26); rw [← hW] at HXA9; replace HXA := HXA9; clear HXA9
      have HNA9 := HNA.al (.cells #[.slice (some ⟨gJ, 0, none⟩) 1 cJ] 26); rw [← hW] at HNA9; replace HNA := HNA9; clear HNA9
      have HCA9 := HCA.al (.cells #[.slice (some ⟨gJ, 0, none⟩) 1 cJ] 26); rw [← hW] at HCA9; replace HCA := HCA9; clear HCA9
      have HQC9 := HQC.al (.cells #[.slice (some ⟨gJ, 0, none⟩) 1 cJ] 26); rw [← hW] at HQC9; replace HQC := HQC9; clear HQC9
      have HXC9 := HXC.al (.cells #[.slice (some ⟨gJ, 0, none⟩) 1 cJ] 26); rw [← hW] at HXC9; replace HXC := HXC9; clear HXC9
      have HQJ9 := HQJ.al (.cells #[.slice (some ⟨gJ, 0, none⟩) 1 cJ] 26); rw [← hW] at HQJ9; replace HQJ := HQJ9; clear HQJ9
      obtain ⟨pJ, hpJ⟩ : ∃ p, p = w3.heap.size := ⟨_, rfl⟩
      rw [← hpJ] at HXJ
      rw [← hpJ]
      clear hW hpJ hb
      go_upto_region 17 with (first | (go_at_call 9; (with_reducible refine (CM.out _).mono ?_); rintro e w2 ⟨A, B, rfl, HN, HP, hb⟩; replace HB := HB.up hb.hid; replace HQA := HQA.up hb.hid; replace HXA := HXA.up hb.hid; replace HNA := HNA.up hb.hid; replace HCA := HCA.up hb.hid; replace HQC := HQC.up hb.hid; replace HXC := HXC.up hb.hid; replace HQJ := HQJ.up hb.hid; replace HXJ := HXJ.up hb.hid) | (go_at_call 8; (with_reducible refine (CPM.out _ _ _ HN HP).mono ?_); rintro e w3 ⟨gM, cM, rfl, HQM, hb⟩; replace HB := HB.up hb.hid; replace HQA := HQA.up hb.hid; replace HXA := HXA.up hb.hid; replace HNA := HNA.up hb.hid; replace HCA := HCA.up hb.hid; replace HQC := HQC.up hb.hid; replace HXC := HXC.up hb.hid; replace HQJ := HQJ.up hb.hid; replace HXJ := HXJ.up hb.hid; clear HN HP) | fail)
      refine kwp_named ?_
      intro WM hW
      have HXM : At WM w3.heap.size [.slice (some ⟨gM, 0, none⟩) 2 cM] := by rw [hW]; exact at_new0 _ _ _
      have HB9 := HB.al (.cells #[.slice (some ⟨gM, 0, none⟩) 2 cM] 26); rw [← hW] at HB9; replace HB := HB9; clear HB9
      have HQA9 := HQA.al (.cells #[.slice (some ⟨gM, 0, none⟩) 2 cM] 26); rw [← hW] at HQA9; replace HQA := HQA9; clear HQA9
      have HXA9 := HXA.al (.cells #[.slice (some ⟨gM, 0, none⟩) 2 cM] 26); rw [← hW] at HXA9; replace HXA := HXA9; clear HXA9
      have HNA9 := HNA.al (.cells #[.slice (some ⟨gM, 0, none⟩) 2 cM] 26); rw [← hW] at HNA9; replace HNA := HNA9; clear HNA9
      have HCA9 := HCA.al (.cells #[.slice (some ⟨gM, 0, none⟩) 2 cM] 26); rw [← hW] at HCA9; replace HCA := HCA9; clear HCA9
      have HQC9 := HQC.al (.cells #[.slice (some ⟨gM, 0, none⟩) 2 cM] 26); rw [← hW] at HQC9; replace HQC := HQC9; clear HQC9
      have HXC9 := HXC.al (.cells #[.slice (some ⟨gM, 0, none⟩) 2 cM] 26); rw [← hW] at HXC9; replace HXC := HXC9; clear HXC9
      have HQJ9 := HQJ.al (.cells #[.slice (some ⟨gM, 0, none⟩) 2 cM] 26); rw [← hW] at HQJ9; replace HQJ := HQJ9; clear HQJ9
      have HXJ9 := HXJ.al (.cells #[.slice (some ⟨gM, 0, none⟩) 2 cM] 26); rw [← hW] at HXJ9; replace HXJ := HXJ9; clear HXJ9
      have HQM9 := HQM.al (.cells #[.slice (some ⟨gM, 0, none⟩) 2 cM] 26); rw [← hW] at HQM9; replace HQM := HQM9; clear HQM9
      obtain ⟨pM, hpM⟩ : ∃ p, p = w3.heap.size := ⟨_, rfl⟩
      rw [← hpM] at HXM
      rw [← hpM]
      clear hW hpM hb
      obtain ⟨vm1, vm2, vm3, hgm, m0, m1, m2, hqm⟩ := qs_one (k := 0) HQM rfl
      obtain ⟨vn1, vn2, vn3, -, n0, n1, n2, HQ1⟩ := qs_one (k := 1) HQM rfl
      obtain ⟨B1, e1, B2, e2, B3, e3, rfl, rfl, rfl, -, -, -, -, -, -, -, -, -⟩ := HQ1.open_
      obtain ⟨y1, hy1⟩ : ∃ v, v = Value.slice B1 (ofP (prM.getD 1 ([], [], oneB))).1.length e1 := ⟨_, rfl⟩
      obtain ⟨y2, hy2⟩ : ∃ v, v = Value.slice B2 (ofP (prM.getD 1 ([], [], oneB))).2.1.length e2 := ⟨_, rfl⟩
      obtain ⟨y3, hy3⟩ : ∃ v, v = Value.slice B3 (ofP (prM.getD 1 ([], [], oneB))).2.2.length e3 := ⟨_, rfl⟩
      have HCM : Ce WM gM [vm1, vm2, vm3, y1, y2, y3] := ⟨hgm, fun i v hv => by
        match i, hv with
        | 0, hv => cases hv; exact m0
        | 1, hv => cases hv; exact m1
        | 2, hv => cases hv; exact m2
        | 3, hv => cases hv; rw [hy1]; exact n0
        | 4, hv => cases hv; rw [hy2]; exact n1
        | 5, hv => cases hv; rw [hy3]; exact n2⟩
      replace HQ1 : Q1 WM y1 y2 y3 (ofP (prM.getD 1 ([], [], oneB))) := by rw [hy1, hy2, hy3]; exact HQ1
      have hy9 : ∃ B1 n1 e1 B2 n2 e2 B3 n3 e3, y1 = Value.slice B1 n1 e1 ∧ y2 = .slice B2 n2 e2 ∧ y3 = .slice B3 n3 e3 := ⟨_, _, _, _, _, _, _, _, _, hy1, hy2, hy3⟩
      clear hy1 hy2 hy3
      obtain ⟨B1, z1, e1, B2, z2, e2, B3, z3, e3, rfl, rfl, rfl⟩ := hy9
      clear m0 m1 m2 n0 n1 n2 hqm hgm CPA CPB CPD CPJ CPM CNB CND CA
      have lA := HXA.lt; have lC := HXC.lt; have lJ := HXJ.lt; have lM := HXM.lt; have lgA := HCA.out.1; have lgM := HCM.out.1
      (try simp only [List.append_eq, List.cons_append, List.nil_append])
      refine wp_region_held_drew (S := fun w' => w'.cell? ⟨pA, 0, none⟩ = some (.slice (some ⟨gA, 0, none⟩) 1 cA) ∧ w'.cell? ⟨pC, 0, none⟩ = some (.slice (some ⟨gC, 0, none⟩) 1 cC) ∧ w'.cell? ⟨pJ, 0, none⟩ = some (.slice (some ⟨gJ, 0, none⟩) 1 cJ) ∧ w'.cell? ⟨pM, 0, none⟩ = some (.slice (some ⟨gM, 0, none⟩) 2 cM) ∧ w'.cell? ⟨gA, 2, none⟩ = some (.slice A3 na d3) ∧ w'.cell? ⟨gM, 3, none⟩ = some (.slice B1 z1 e1) ∧ w'.cell? ⟨gM, 4, none⟩ = some (.slice B2 z2 e2) ∧ w'.cell? ⟨gM, 5, none⟩ = some (.slice B3 z3 e3)) (by kernel_rfl) ?_ (fun hHeld => ?_)
      · exact ⟨HXA.c0, HXC.c0, HXJ.c0, HXM.c0, HCA.ci (i := 2) rfl, HCM.ci (i := 3) rfl, HCM.ci (i := 4) rfl, HCM.ci (i := 5) rfl⟩
      (refine wpAnyH_take (i := 0) (v := ?_) rfl (by decide +kernel) (by decide +kernel) (by decide +kernel) (fun _ _ _ h => h) (Or.inl ⟨by rfl, ?_⟩) (by assumption) ?_; rotate_left; (focus ((intro w hSw; (try dsimp only at hSw); go_simp); (try (with_reducible rfl)); done)); (try simp only [List.getElem_toArray, List.getElem_cons_zero, List.getElem_cons_succ, Act.put, List.setIfInBounds_toArray, List.set_cons_zero, List.set_cons_succ]))
      (refine wpAnyH_take (i := 1) (v := ?_) rfl (by decide +kernel) (by decide +kernel) (by decide +kernel) (fun _ _ _ h => h) (Or.inl ⟨by rfl, ?_⟩) (by assumption) ?_; rotate_left; (focus ((intro w hSw; (try dsimp only at hSw); go_simp); (try (with_reducible rfl)); done)); (try simp only [List.getElem_toArray, List.getElem_cons_zero, List.getElem_cons_succ, Act.put, List.setIfInBounds_toArray, List.set_cons_zero, List.set_cons_succ]))
      (refine wpAnyH_take (i := 2) (v := ?_) rfl (by decide +kernel) (by decide +kernel) (by decide +kernel) (fun _ _ _ h => h) (Or.inl ⟨by rfl, ?_⟩) (by assumption) ?_; rotate_left; (focus ((intro w hSw; (try dsimp only at hSw); go_simp); (try (with_reducible rfl)); done)); (try simp only [List.getElem_toArray, List.getElem_cons_zero, List.getElem_cons_succ, Act.put, List.setIfInBounds_toArray, List.set_cons_zero, List.set_cons_succ]))
      (refine wpAnyH_take (i := 3) (v := ?_) rfl (by decide +kernel) (by decide +kernel) (by decide +kernel) (fun _ _ _ h => h) (Or.inl ⟨by rfl, ?_⟩) (by assumption) ?_; rotate_left; (focus ((intro w hSw; (try dsimp only at hSw); go_simp); (try (with_reducible rfl)); done)); (try simp only [List.getElem_toArray, List.getElem_cons_zero, List.getElem_cons_succ, Act.put, List.setIfInBounds_toArray, List.set_cons_zero, List.set_cons_succ]))
      (refine wpAnyH_ready (rs := [4]) (by decide +kernel) (by simp) ?_; refine AllReadyH.cons rfl (fun K hK => ?_) AllReadyH.nil; go_simp; (go_at_call 11; (with_reducible refine (CSA.out _ _ _ HQA.dr).mono ?_); rintro e wx ⟨rfl, hb⟩; replace HB := HB.dr.up hb; replace HQA := HQA.dr.up hb; replace HXA := HXA.dr.up hb; replace HNA := HNA.dr.up hb; replace HCA := HCA.dr.up hb; replace HQC := HQC.dr.up hb; replace HXC := HXC.dr.up hb; replace HQJ := HQJ.dr.up hb; replace HXJ := HXJ.dr.up hb; replace HQM := HQM.dr.up hb; replace HXM := HXM.dr.up hb; replace HCM := HCM.dr.up hb; replace HQ1 := HQ1.dr.up hb); (try (go_wp2_with fail)); refine hK.out _ _ ?_ (fun hHeld => ?_); (focus ((try dsimp only); (exact ⟨HXA.c0, HXC.c0, HXJ.c0, HXM.c0, HCA.ci (i := 2) rfl, HCM.ci (i := 3) rfl, HCM.ci (i := 4) rfl, HCM.ci (i := 5) rfl⟩))); clear hK K; (try simp only [List.getElem_toArray, List.getElem_cons_zero, List.getElem_cons_succ, Act.put, List.setIfInBounds_toArray, List.set_cons_zero, List.set_cons_succ]))
      (refine wpAnyH_take (i := 5) (v := ?_) rfl (by decide +kernel) (by decide +kernel) (by decide +kernel) (fun _ _ _ h => h) (Or.inl ⟨by rfl, ?_⟩) (by assumption) ?_; rotate_left; (focus ((intro w hSw; (try dsimp only at hSw); go_simp); (try (with_reducible rfl)); done)); (try simp only [List.getElem_toArray, List.getElem_cons_zero, List.getElem_cons_succ, Act.put, List.setIfInBounds_toArray, List.set_cons_zero, List.set_cons_succ]))
      (refine wpAnyH_take (i := 6) (v := ?_) rfl (by decide +kernel) (by decide +kernel) (by decide +kernel) (fun _ _ _ h => h) (Or.inl ⟨by rfl, ?_⟩) (by assumption) ?_; rotate_left; (focus ((intro w hSw; (try dsimp only at hSw); go_simp); (try (with_reducible rfl)); done)); (try simp only [List.getElem_toArray, List.getElem_cons_zero, List.getElem_cons_succ, Act.put, List.setIfInBounds_toArray, List.set_cons_zero, List.set_cons_succ]))
      (refine wpAnyH_take (i := 7) (v := ?_) rfl (by decide +kernel) (by decide +kernel) (by decide +kernel) (fun _ _ _ h => h) (Or.inl ⟨by rfl, ?_⟩) (by assumption) ?_; rotate_left; (focus ((intro w hSw; (try dsimp only at hSw); go_simp); (try (with_reducible rfl)); done)); (try simp only [List.getElem_toArray, List.getElem_cons_zero, List.getElem_cons_succ, Act.put, List.setIfInBounds_toArray, List.set_cons_zero, List.set_cons_succ]))
      (refine wpAnyH_take (i := 8) (v := ?_) rfl (by decide +kernel) (by decide +kernel) (by decide +kernel) (fun _ _ _ h => h) (Or.inl ⟨by rfl, ?_⟩) (by assumption) ?_; rotate_left; (focus ((intro w hSw; (try dsimp only at hSw); go_simp); (try (with_reducible rfl)); done)); (try simp only [List.getElem_toArray, List.getElem_cons_zero, List.getElem_cons_succ, Act.put, List.setIfInBounds_toArray, List.set_cons_zero, List.set_cons_succ]))
      (refine wpAnyH_take (i := 9) (v := ?_) rfl (by decide +kernel) (by decide +kernel) (by decide +kernel) (fun _ _ _ h => h) (Or.inl ⟨by rfl, ?_⟩) (by assumption) ?_; rotate_left; (focus ((intro w hSw; (try dsimp only at hSw); go_simp); (try (with_reducible rfl)); done)); (try simp only [List.getElem_toArray, List.getElem_cons_zero, List.getElem_cons_succ, Act.put, List.setIfInBounds_toArray, List.set_cons_zero, List.set_cons_succ]))
      (refine wpAnyH_take (i := 10) (v := ?_) rfl (by decide +kernel) (by decide +kernel) (by decide +kernel) (fun _ _ _ h => h) (Or.inl ⟨by rfl, ?_⟩) (by assumption) ?_; rotate_left; (focus ((intro w hSw; (try dsimp only at hSw); go_simp); (try (with_reducible rfl)); done)); (try simp only [List.getElem_toArray, List.getElem_cons_zero, List.getElem_cons_succ, Act.put, List.setIfInBounds_toArray, List.set_cons_zero, List.set_cons_succ]))
      (refine wpAnyH_take (i := 11) (v := ?_) rfl (by decide +kernel) (by decide +kernel) (by decide +kernel) (fun _ _ _ h => h) (Or.inl ⟨by rfl, ?_⟩) (by assumption) ?_; rotate_left; (focus ((intro w hSw; (try dsimp only at hSw); go_simp); (try (with_reducible rfl)); done)); (try simp only [List.getElem_toArray, List.getElem_cons_zero, List.getElem_cons_succ, Act.put, List.setIfInBounds_toArray, List.set_cons_zero, List.set_cons_succ]))
      (refine wpAnyH_take (i := 12) (v := ?_) rfl (by decide +kernel) (by decide +kernel) (by decide +kernel) (fun _ _ _ h => h) (Or.inl ⟨by rfl, ?_⟩) (by assumption) ?_; rotate_left; (focus ((intro w hSw; (try dsimp only at hSw); go_simp); (try (with_reducible rfl)); done)); (try simp only [List.getElem_toArray, List.getElem_cons_zero, List.getElem_cons_succ, Act.put, List.setIfInBounds_toArray, List.set_cons_zero, List.set_cons_succ]))
      (refine wpAnyH_take (i := 13) (v := ?_) rfl (by decide +kernel) (by decide +kernel) (by decide +kernel) (fun _ _ _ h => h) (Or.inl ⟨by rfl, ?_⟩) (by assumption) ?_; rotate_left; (focus ((intro w hSw; (try dsimp only at hSw); go_simp); (try (with_reducible rfl)); done)); (try simp only [List.getElem_toArray, List.getElem_cons_zero, List.getElem_cons_succ, Act.put, List.setIfInBounds_toArray, List.set_cons_zero, List.set_cons_succ]))
      (refine wpAnyH_take (i := 14) (v := ?_) rfl (by decide +kernel) (by decide +kernel) (by decide +kernel) (fun _ _ _ h => h) (Or.inl ⟨by rfl, ?_⟩) (by assumption) ?_; rotate_left; (focus ((intro w hSw; (try dsimp only at hSw); go_simp); (try (with_reducible rfl)); done)); (try simp only [List.getElem_toArray, List.getElem_cons_zero, List.getElem_cons_succ, Act.put, List.setIfInBounds_toArray, List.set_cons_zero, List.set_cons_succ]))
      (refine wpAnyH_take (i := 15) (v := ?_) rfl (by decide +kernel) (by decide +kernel) (by decide +kernel) (fun _ _ _ h => h) (Or.inl ⟨by rfl, ?_⟩) (by assumption) ?_; rotate_left; (focus ((intro w hSw; (try dsimp only at hSw); go_simp); (try (with_reducible rfl)); done)); (try simp only [List.getElem_toArray, List.getElem_cons_zero, List.getElem_cons_succ, Act.put, List.setIfInBounds_toArray, List.set_cons_zero, List.set_cons_succ]))
      (refine wpAnyH_take (i := 16) (v := ?_) rfl (by decide +kernel) (by decide +kernel) (by decide +kernel) (fun _ _ _ h => h) (Or.inl ⟨by rfl, ?_⟩) (by assumption) ?_; rotate_left; (focus ((intro w hSw; (try dsimp only at hSw); go_simp); (try (with_reducible rfl)); done)); (try simp only [List.getElem_toArray, List.getElem_cons_zero, List.getElem_cons_succ, Act.put, List.setIfInBounds_toArray, List.set_cons_zero, List.set_cons_succ]))
      (refine wpAnyH_take (i := 17) (v := ?_) rfl (by decide +kernel) (by decide +kernel) (by decide +kernel) (fun _ _ _ h => h) (Or.inl ⟨by rfl, ?_⟩) (by assumption) ?_; rotate_left; (focus ((intro w hSw; (try dsimp only at hSw); go_simp); (try (with_reducible rfl)); done)); (try simp only [List.getElem_toArray, List.getElem_cons_zero, List.getElem_cons_succ, Act.put, List.setIfInBounds_toArray, List.set_cons_zero, List.set_cons_succ]))
      (refine wpAnyH_take (i := 18) (v := ?_) rfl (by decide +kernel) (by decide +kernel) (by decide +kernel) (fun _ _ _ h => h) (Or.inl ⟨by rfl, ?_⟩) (by assumption) ?_; rotate_left; (focus ((intro w hSw; (try dsimp only at hSw); go_simp); (try (with_reducible rfl)); done)); (try simp only [List.getElem_toArray, List.getElem_cons_zero, List.getElem_cons_succ, Act.put, List.setIfInBounds_toArray, List.set_cons_zero, List.set_cons_succ]))
      (refine wpAnyH_ready (rs := [19]) (by decide +kernel) (by simp) ?_; refine AllReadyH.cons rfl (fun K hK => ?_) AllReadyH.nil; go_simp; (go_at_call 12; (with_reducible refine (CT.out _ _ _ _ HNA).mono ?_); rintro e wx ⟨rfl, hb⟩; replace HB := HB.up hb; replace HQA := HQA.up hb; replace HXA := HXA.up hb; replace HNA := HNA.up hb; replace HCA := HCA.up hb; replace HQC := HQC.up hb; replace HXC := HXC.up hb; replace HQJ := HQJ.up hb; replace HXJ := HXJ.up hb; replace HQM := HQM.up hb; replace HXM := HXM.up hb; replace HCM := HCM.up hb; replace HQ1 := HQ1.up hb); (try (go_wp2_with fail)); refine hK.out _ _ ?_ (fun hHeld => ?_); (focus ((try dsimp only); (exact ⟨HXA.c0, HXC.c0, HXJ.c0, HXM.c0, HCA.ci (i := 2) rfl, HCM.ci (i := 3) rfl, HCM.ci (i := 4) rfl, HCM.ci (i := 5) rfl⟩))); clear hK K; (try simp only [List.getElem_toArray, List.getElem_cons_zero, List.getElem_cons_succ, Act.put, List.setIfInBounds_toArray, List.set_cons_zero, List.set_cons_succ]))
      (refine wpAnyH_take (i := 20) (v := ?_) rfl (by decide +kernel) (by decide +kernel) (by decide +kernel) (fun _ _ _ h => h) (Or.inl ⟨by rfl, ?_⟩) (by assumption) ?_; rotate_left; (focus ((intro w hSw; (try dsimp only at hSw); go_simp); (try (with_reducible rfl)); done)); (try simp only [List.getElem_toArray, List.getElem_cons_zero, List.getElem_cons_succ, Act.put, List.setIfInBounds_toArray, List.set_cons_zero, List.set_cons_succ]))
      (refine wpAnyH_take (i := 21) (v := ?_) rfl (by decide +kernel) (by decide +kernel) (by decide +kernel) (fun _ _ _ h => h) (Or.inl ⟨by rfl, ?_⟩) (by assumption) ?_; rotate_left; (focus ((intro w hSw; (try dsimp only at hSw); go_simp); (try (with_reducible rfl)); done)); (try simp only [List.getElem_toArray, List.getElem_cons_zero, List.getElem_cons_succ, Act.put, List.setIfInBounds_toArray, List.set_cons_zero, List.set_cons_succ]))
      (refine wpAnyH_take (i := 22) (v := ?_) rfl (by decide +kernel) (by decide +kernel) (by decide +kernel) (fun _ _ _ h => h) (Or.inl ⟨by rfl, ?_⟩) (by assumption) ?_; rotate_left; (focus ((intro w hSw; (try dsimp only at hSw); go_simp); (try (with_reducible rfl)); done)); (try simp only [List.getElem_toArray, List.getElem_cons_zero, List.getElem_cons_succ, Act.put, List.setIfInBounds_toArray, List.set_cons_zero, List.set_cons_succ]))
      (refine wpAnyH_take (i := 23) (v := ?_) rfl (by decide +kernel) (by decide +kernel) (by decide +kernel) (fun _ _ _ h => h) (Or.inl ⟨by rfl, ?_⟩) (by assumption) ?_; rotate_left; (focus ((intro w hSw; (try dsimp only at hSw); go_simp); (try (with_reducible rfl)); done)); (try simp only [List.getElem_toArray, List.getElem_cons_zero, List.getElem_cons_succ, Act.put, List.setIfInBounds_toArray, List.set_cons_zero, List.set_cons_succ]))
      (refine wpAnyH_take (i := 24) (v := ?_) rfl (by decide +kernel) (by decide +kernel) (by decide +kernel) (fun _ _ _ h => h) (Or.inl ⟨by rfl, ?_⟩) (by assumption) ?_; rotate_left; (focus ((intro w hSw; (try dsimp only at hSw); go_simp); (try (with_reducible rfl)); done)); (try simp only [List.getElem_toArray, List.getElem_cons_zero, List.getElem_cons_succ, Act.put, List.setIfInBounds_toArray, List.set_cons_zero, List.set_cons_succ]))
      (refine wpAnyH_take (i := 25) (v := ?_) rfl (by decide +kernel) (by decide +kernel) (by decide +kernel) (fun _ _ _ h => h) (Or.inl ⟨by rfl, ?_⟩) (by assumption) ?_; rotate_left; (focus ((intro w hSw; (try dsimp only at hSw); go_simp); (try (with_reducible rfl)); done)); (try simp only [List.getElem_toArray, List.getElem_cons_zero, List.getElem_cons_succ, Act.put, List.setIfInBounds_toArray, List.set_cons_zero, List.set_cons_succ]))
      (refine wpAnyH_take (i := 26) (v := ?_) rfl (by decide +kernel) (by decide +kernel) (by decide +kernel) (fun _ _ _ h => h) (Or.inl ⟨by rfl, ?_⟩) (by assumption) ?_; rotate_left; (focus ((intro w hSw; (try dsimp only at hSw); go_simp); (try (with_reducible rfl)); done)); (try simp only [List.getElem_toArray, List.getElem_cons_zero, List.getElem_cons_succ, Act.put, List.setIfInBounds_toArray, List.set_cons_zero, List.set_cons_succ]))
      (refine wpAnyH_take (i := 27) (v := ?_) rfl (by decide +kernel) (by decide +kernel) (by decide +kernel) (fun _ _ _ h => h) (Or.inl ⟨by rfl, ?_⟩) (by assumption) ?_; rotate_left; (focus ((intro w hSw; (try dsimp only at hSw); go_simp); (try (with_reducible rfl)); done)); (try simp only [List.getElem_toArray, List.getElem_cons_zero, List.getElem_cons_succ, Act.put, List.setIfInBounds_toArray, List.set_cons_zero, List.set_cons_succ]))
      (refine wpAnyH_take (i := 28) (v := ?_) rfl (by decide +kernel) (by decide +kernel) (by decide +kernel) (fun _ _ _ h => h) (Or.inl ⟨by rfl, ?_⟩) (by assumption) ?_; rotate_left; (focus ((intro w hSw; (try dsimp only at hSw); go_simp); (try (with_reducible rfl)); done)); (try simp only [List.getElem_toArray, List.getElem_cons_zero, List.getElem_cons_succ, Act.put, List.setIfInBounds_toArray, List.set_cons_zero, List.set_cons_succ]))
      (refine wpAnyH_take (i := 29) (v := ?_) rfl (by decide +kernel) (by decide +kernel) (by decide +kernel) (fun _ _ _ h => h) (Or.inl ⟨by rfl, ?_⟩) (by assumption) ?_; rotate_left; (focus ((intro w hSw; (try dsimp only at hSw); go_simp); (try (with_reducible rfl)); done)); (try simp only [List.getElem_toArray, List.getElem_cons_zero, List.getElem_cons_succ, Act.put, List.setIfInBounds_toArray, List.set_cons_zero, List.set_cons_succ]))
      (refine wpAnyH_take (i := 30) (v := ?_) rfl (by decide +kernel) (by decide +kernel) (by decide +kernel) (fun _ _ _ h => h) (Or.inl ⟨by rfl, ?_⟩) (by assumption) ?_; rotate_left; (focus ((intro w hSw; (try dsimp only at hSw); go_simp); (try (with_reducible rfl)); done)); (try simp only [List.getElem_toArray, List.getElem_cons_zero, List.getElem_cons_succ, Act.put, List.setIfInBounds_toArray, List.set_cons_zero, List.set_cons_succ]))
      (refine wpAnyH_take (i := 31) (v := ?_) rfl (by decide +kernel) (by decide +kernel) (by decide +kernel) (fun _ _ _ h => h) (Or.inl ⟨by rfl, ?_⟩) (by assumption) ?_; rotate_left; (focus ((intro w hSw; (try dsimp only at hSw); go_simp); (try (with_reducible rfl)); done)); (try simp only [List.getElem_toArray, List.getElem_cons_zero, List.getElem_cons_succ, Act.put, List.setIfInBounds_toArray, List.set_cons_zero, List.set_cons_succ]))
      (refine wpAnyH_ready (rs := [32]) (by decide +kernel) (by simp) ?_; refine AllReadyH.cons rfl (fun K hK => ?_) AllReadyH.nil; go_simp; (go_at_call 11; (with_reducible refine (CSC.out _ _ _ HQC).mono ?_); rintro e wx ⟨rfl, hb⟩; replace HB := HB.up hb; replace HQA := HQA.up hb; replace HXA := HXA.up hb; replace HNA := HNA.up hb; replace HCA := HCA.up hb; replace HQC := HQC.up hb; replace HXC := HXC.up hb; replace HQJ := HQJ.up hb; replace HXJ := HXJ.up hb; replace HQM := HQM.up hb; replace HXM := HXM.up hb; replace HCM := HCM.up hb; replace HQ1 := HQ1.up hb); (try (go_wp2_with fail)); refine hK.out _ _ ?_ (fun hHeld => ?_); (focus ((try dsimp only); (exact ⟨HXA.c0, HXC.c0, HXJ.c0, HXM.c0, HCA.ci (i := 2) rfl, HCM.ci (i := 3) rfl, HCM.ci (i := 4) rfl, HCM.ci (i := 5) rfl⟩))); clear hK K; (try simp only [List.getElem_toArray, List.getElem_cons_zero, List.getElem_cons_succ, Act.put, List.setIfInBounds_toArray, List.set_cons_zero, List.set_cons_succ]))
      (refine wpAnyH_take (i := 33) (v := ?_) rfl (by decide +kernel) (by decide +kernel) (by decide +kernel) (fun _ _ _ h => h) (Or.inl ⟨by rfl, ?_⟩) (by assumption) ?_; rotate_left; (focus ((intro w hSw; (try dsimp only at hSw); go_simp); (try (with_reducible rfl)); done)); (try simp only [List.getElem_toArray, List.getElem_cons_zero, List.getElem_cons_succ, Act.put, List.setIfInBounds_toArray, List.set_cons_zero, List.set_cons_succ]))
      (refine wpAnyH_take (i := 34) (v := ?_) rfl (by decide +kernel) (by decide +kernel) (by decide +kernel) (fun _ _ _ h => h) (Or.inl ⟨by rfl, ?_⟩) (by assumption) ?_; rotate_left; (focus ((intro w hSw; (try dsimp only at hSw); go_simp); (try (with_reducible rfl)); done)); (try simp only [List.getElem_toArray, List.getElem_cons_zero, List.getElem_cons_succ, Act.put, List.setIfInBounds_toArray, List.set_cons_zero, List.set_cons_succ]))
      (refine wpAnyH_take (i := 35) (v := ?_) rfl (by decide +kernel) (by decide +kernel) (by decide +kernel) (fun _ _ _ h => h) (Or.inl ⟨by rfl, ?_⟩) (by assumption) ?_; rotate_left; (focus ((intro w hSw; (try dsimp only at hSw); go_simp); (try (with_reducible rfl)); done)); (try simp only [List.getElem_toArray, List.getElem_cons_zero, List.getElem_cons_succ, Act.put, List.setIfInBounds_toArray, List.set_cons_zero, List.set_cons_succ]))
      (refine wpAnyH_take (i := 36) (v := ?_) rfl (by decide +kernel) (by decide +kernel) (by decide +kernel) (fun _ _ _ h => h) (Or.inl ⟨by rfl, ?_⟩) (by assumption) ?_; rotate_left; (focus ((intro w hSw; (try dsimp only at hSw); go_simp); (try (with_reducible rfl)); done)); (try simp only [List.getElem_toArray, List.getElem_cons_zero, List.getElem_cons_succ, Act.put, List.setIfInBounds_toArray, List.set_cons_zero, List.set_cons_succ]))
      (refine wpAnyH_take (i := 37) (v := ?_) rfl (by decide +kernel) (by decide +kernel) (by decide +kernel) (fun _ _ _ h => h) (Or.inl ⟨by rfl, ?_⟩) (by assumption) ?_; rotate_left; (focus ((intro w hSw; (try dsimp only at hSw); go_simp); (try (with_reducible rfl)); done)); (try simp only [List.getElem_toArray, List.getElem_cons_zero, List.getElem_cons_succ, Act.put, List.setIfInBounds_toArray, List.set_cons_zero, List.set_cons_succ]))
      (refine wpAnyH_take (i := 38) (v := ?_) rfl (by decide +kernel) (by decide +kernel) (by decide +kernel) (fun _ _ _ h => h) (Or.inl ⟨by rfl, ?_⟩) (by assumption) ?_; rotate_left; (focus ((intro w hSw; (try dsimp only at hSw); go_simp); (try (with_reducible rfl)); done)); (try simp only [List.getElem_toArray, List.getElem_cons_zero, List.getElem_cons_succ, Act.put, List.setIfInBounds_toArray, List.set_cons_zero, List.set_cons_succ]))
      (refine wpAnyH_take (i := 39) (v := ?_) rfl (by decide +kernel) (by decide +kernel) (by decide +kernel) (fun _ _ _ h => h) (Or.inl ⟨by rfl, ?_⟩) (by assumption) ?_; rotate_left; (focus ((intro w hSw; (try dsimp only at hSw); go_simp); (try (with_reducible rfl)); done)); (try simp only [List.getElem_toArray, List.getElem_cons_zero, List.getElem_cons_succ, Act.put, List.setIfInBounds_toArray, List.set_cons_zero, List.set_cons_succ]))
      (refine wpAnyH_take (i := 40) (v := ?_) rfl (by decide +kernel) (by decide +kernel) (by decide +kernel) (fun _ _ _ h => h) (Or.inl ⟨by rfl, ?_⟩) (by assumption) ?_; rotate_left; (focus ((intro w hSw; (try dsimp only at hSw); go_simp); (try (with_reducible rfl)); done)); (try simp only [List.getElem_toArray, List.getElem_cons_zero, List.getElem_cons_succ, Act.put, List.setIfInBounds_toArray, List.set_cons_zero, List.set_cons_succ]))
      (refine wpAnyH_take (i := 41) (v := ?_) rfl (by decide +kernel) (by decide +kernel) (by decide +kernel) (fun _ _ _ h => h) (Or.inl ⟨by rfl, ?_⟩) (by assumption) ?_; rotate_left; (focus ((intro w hSw; (try dsimp only at hSw); go_simp); (try (with_reducible rfl)); done)); (try simp only [List.getElem_toArray, List.getElem_cons_zero, List.getElem_cons_succ, Act.put, List.setIfInBounds_toArray, List.set_cons_zero, List.set_cons_succ]))
      (refine wpAnyH_take (i := 42) (v := ?_) rfl (by decide +kernel) (by decide +kernel) (by decide +kernel) (fun _ _ _ h => h) (Or.inl ⟨by rfl, ?_⟩) (by assumption) ?_; rotate_left; (focus ((intro w hSw; (try dsimp only at hSw); go_simp); (try (with_reducible rfl)); done)); (try simp only [List.getElem_toArray, List.getElem_cons_zero, List.getElem_cons_succ, Act.put, List.setIfInBounds_toArray, List.set_cons_zero, List.set_cons_succ]))
      (refine wpAnyH_take (i := 43) (v := ?_) rfl (by decide +kernel) (by decide +kernel) (by decide +kernel) (fun _ _ _ h => h) (Or.inl ⟨by rfl, ?_⟩) (by assumption) ?_; rotate_left; (focus ((intro w hSw; (try dsimp only at hSw); go_simp); (try (with_reducible rfl)); done)); (try simp only [List.getElem_toArray, List.getElem_cons_zero, List.getElem_cons_succ, Act.put, List.setIfInBounds_toArray, List.set_cons_zero, List.set_cons_succ]))
      (refine wpAnyH_take (i := 44) (v := ?_) rfl (by decide +kernel) (by decide +kernel) (by decide +kernel) (fun _ _ _ h => h) (Or.inl ⟨by rfl, ?_⟩) (by assumption) ?_; rotate_left; (focus ((intro w hSw; (try dsimp only at hSw); go_simp); (try (with_reducible rfl)); done)); (try simp only [List.getElem_toArray, List.getElem_cons_zero, List.getElem_cons_succ, Act.put, List.setIfInBounds_toArray, List.set_cons_zero, List.set_cons_succ]))
      (refine wpAnyH_take (i := 45) (v := ?_) rfl (by decide +kernel) (by decide +kernel) (by decide +kernel) (fun _ _ _ h => h) (Or.inl ⟨by rfl, ?_⟩) (by assumption) ?_; rotate_left; (focus ((intro w hSw; (try dsimp only at hSw); go_simp); (try (with_reducible rfl)); done)); (try simp only [List.getElem_toArray, List.getElem_cons_zero, List.getElem_cons_succ, Act.put, List.setIfInBounds_toArray, List.set_cons_zero, List.set_cons_succ]))
      (refine wpAnyH_take (i := 46) (v := ?_) rfl (by decide +kernel) (by decide +kernel) (by decide +kernel) (fun _ _ _ h => h) (Or.inl ⟨by rfl, ?_⟩) (by assumption) ?_; rotate_left; (focus ((intro w hSw; (try dsimp only at hSw); go_simp); (try (with_reducible rfl)); done)); (try simp only [List.getElem_toArray, List.getElem_cons_zero, List.getElem_cons_succ, Act.put, List.setIfInBounds_toArray, List.set_cons_zero, List.set_cons_succ]))
      (refine wpAnyH_take (i := 47) (v := ?_) rfl (by decide +kernel) (by decide +kernel) (by decide +kernel) (fun _ _ _ h => h) (Or.inl ⟨by rfl, ?_⟩) (by assumption) ?_; rotate_left; (focus ((intro w hSw; (try dsimp only at hSw); go_simp); (try (with_reducible rfl)); done)); (try simp only [List.getElem_toArray, List.getElem_cons_zero, List.getElem_cons_succ, Act.put, List.setIfInBounds_toArray, List.set_cons_zero, List.set_cons_succ]))
      (refine wpAnyH_take (i := 48) (v := ?_) rfl (by decide +kernel) (by decide +kernel) (by decide +kernel) (fun _ _ _ h => h) (Or.inl ⟨by rfl, ?_⟩) (by assumption) ?_; rotate_left; (focus ((intro w hSw; (try dsimp only at hSw); go_simp); (try (with_reducible rfl)); done)); (try simp only [List.getElem_toArray, List.getElem_cons_zero, List.getElem_cons_succ, Act.put, List.setIfInBounds_toArray, List.set_cons_zero, List.set_cons_succ]))
      (refine wpAnyH_ready (rs := [49]) (by decide +kernel) (by simp) ?_; refine AllReadyH.cons rfl (fun K hK => ?_) AllReadyH.nil; go_simp; (go_at_call 11; (with_reducible refine (CSJ.out _ _ _ HQJ).mono ?_); rintro e wx ⟨rfl, hb⟩; replace HB := HB.up hb; replace HQA := HQA.up hb; replace HXA := HXA.up hb; replace HNA := HNA.up hb; replace HCA := HCA.up hb; replace HQC := HQC.up hb; replace HXC := HXC.up hb; replace HQJ := HQJ.up hb; replace HXJ := HXJ.up hb; replace HQM := HQM.up hb; replace HXM := HXM.up hb; replace HCM := HCM.up hb; replace HQ1 := HQ1.up hb); (try (go_wp2_with fail)); refine hK.out _ _ ?_ (fun hHeld => ?_); (focus ((try dsimp only); (exact ⟨HXA.c0, HXC.c0, HXJ.c0, HXM.c0, HCA.ci (i := 2) rfl, HCM.ci (i := 3) rfl, HCM.ci (i := 4) rfl, HCM.ci (i := 5) rfl⟩))); clear hK K; (try simp only [List.getElem_toArray, List.getElem_cons_zero, List.getElem_cons_succ, Act.put, List.setIfInBounds_toArray, List.set_cons_zero, List.set_cons_succ]))
      (refine wpAnyH_take (i := 50) (v := ?_) rfl (by decide +kernel) (by decide +kernel) (by decide +kernel) (fun _ _ _ h => h) (Or.inl ⟨by rfl, ?_⟩) (by assumption) ?_; rotate_left; (focus ((intro w hSw; (try dsimp only at hSw); go_simp); (try (with_reducible rfl)); done)); (try simp only [List.getElem_toArray, List.getElem_cons_zero, List.getElem_cons_succ, Act.put, List.setIfInBounds_toArray, List.set_cons_zero, List.set_cons_succ]))
      (refine wpAnyH_take (i := 51) (v := ?_) rfl (by decide +kernel) (by decide +kernel) (by decide +kernel) (fun _ _ _ h => h) (Or.inl ⟨by rfl, ?_⟩) (by assumption) ?_; rotate_left; (focus ((intro w hSw; (try dsimp only at hSw); go_simp); (try (with_reducible rfl)); done)); (try simp only [List.getElem_toArray, List.getElem_cons_zero, List.getElem_cons_succ, Act.put, List.setIfInBounds_toArray, List.set_cons_zero, List.set_cons_succ]))
      (refine wpAnyH_take (i := 52) (v := ?_) rfl (by decide +kernel) (by decide +kernel) (by decide +kernel) (fun _ _ _ h => h) (Or.inl ⟨by rfl, ?_⟩) (by assumption) ?_; rotate_left; (focus ((intro w hSw; (try dsimp only at hSw); go_simp); (try (with_reducible rfl)); done)); (try simp only [List.getElem_toArray, List.getElem_cons_zero, List.getElem_cons_succ, Act.put, List.setIfInBounds_toArray, List.set_cons_zero, List.set_cons_succ]))
      (refine wpAnyH_take (i := 53) (v := ?_) rfl (by decide +kernel) (by decide +kernel) (by decide +kernel) (fun _ _ _ h => h) (Or.inl ⟨by rfl, ?_⟩) (by assumption) ?_; rotate_left; (focus ((intro w hSw; (try dsimp only at hSw); go_simp); (try (with_reducible rfl)); done)); (try simp only [List.getElem_toArray, List.getElem_cons_zero, List.getElem_cons_succ, Act.put, List.setIfInBounds_toArray, List.set_cons_zero, List.set_cons_succ]))
      (refine wpAnyH_take (i := 54) (v := ?_) rfl (by decide +kernel) (by decide +kernel) (by decide +kernel) (fun _ _ _ h => h) (Or.inl ⟨by rfl, ?_⟩) (by assumption) ?_; rotate_left; (focus ((intro w hSw; (try dsimp only at hSw); go_simp); (try (with_reducible rfl)); done)); (try simp only [List.getElem_toArray, List.getElem_cons_zero, List.getElem_cons_succ, Act.put, List.setIfInBounds_toArray, List.set_cons_zero, List.set_cons_succ]))
      (refine wpAnyH_take (i := 55) (v := ?_) rfl (by decide +kernel) (by decide +kernel) (by decide +kernel) (fun _ _ _ h => h) (Or.inl ⟨by rfl, ?_⟩) (by assumption) ?_; rotate_left; (focus ((intro w hSw; (try dsimp only at hSw); go_simp); (try (with_reducible rfl)); done)); (try simp only [List.getElem_toArray, List.getElem_cons_zero, List.getElem_cons_succ, Act.put, List.setIfInBounds_toArray, List.set_cons_zero, List.set_cons_succ]))
      (refine wpAnyH_take (i := 56) (v := ?_) rfl (by decide +kernel) (by decide +kernel) (by decide +kernel) (fun _ _ _ h => h) (Or.inl ⟨by rfl, ?_⟩) (by assumption) ?_; rotate_left; (focus ((intro w hSw; (try dsimp only at hSw); go_simp); (try (with_reducible rfl)); done)); (try simp only [List.getElem_toArray, List.getElem_cons_zero, List.getElem_cons_succ, Act.put, List.setIfInBounds_toArray, List.set_cons_zero, List.set_cons_succ]))
      (refine wpAnyH_take (i := 57) (v := ?_) rfl (by decide +kernel) (by decide +kernel) (by decide +kernel) (fun _ _ _ h => h) (Or.inl ⟨by rfl, ?_⟩) (by assumption) ?_; rotate_left; (focus ((intro w hSw; (try dsimp only at hSw); go_simp); (try (with_reducible rfl)); done)); (try simp only [List.getElem_toArray, List.getElem_cons_zero, List.getElem_cons_succ, Act.put, List.setIfInBounds_toArray, List.set_cons_zero, List.set_cons_succ]))
      (refine wpAnyH_take (i := 58) (v := ?_) rfl (by decide +kernel) (by decide +kernel) (by decide +kernel) (fun _ _ _ h => h) (Or.inl ⟨by rfl, ?_⟩) (by assumption) ?_; rotate_left; (focus ((intro w hSw; (try dsimp only at hSw); go_simp); (try (with_reducible rfl)); done)); (try simp only [List.getElem_toArray, List.getElem_cons_zero, List.getElem_cons_succ, Act.put, List.setIfInBounds_toArray, List.set_cons_zero, List.set_cons_succ]))
      (refine wpAnyH_take (i := 59) (v := ?_) rfl (by decide +kernel) (by decide +kernel) (by decide +kernel) (fun _ _ _ h => h) (Or.inl ⟨by rfl, ?_⟩) (by assumption) ?_; rotate_left; (focus ((intro w hSw; (try dsimp only at hSw); go_simp); (try (with_reducible rfl)); done)); (try simp only [List.getElem_toArray, List.getElem_cons_zero, List.getElem_cons_succ, Act.put, List.setIfInBounds_toArray, List.set_cons_zero, List.set_cons_succ]))
      (refine wpAnyH_take (i := 60) (v := ?_) rfl (by decide +kernel) (by decide +kernel) (by decide +kernel) (fun _ _ _ h => h) (Or.inl ⟨by rfl, ?_⟩) (by assumption) ?_; rotate_left; (focus ((intro w hSw; (try dsimp only at hSw); go_simp); (try (with_reducible rfl)); done)); (try simp only [List.getElem_toArray, List.getElem_cons_zero, List.getElem_cons_succ, Act.put, List.setIfInBounds_toArray, List.set_cons_zero, List.set_cons_succ]))
      (refine wpAnyH_take (i := 61) (v := ?_) rfl (by decide +kernel) (by decide +kernel) (by decide +kernel) (fun _ _ _ h => h) (Or.inl ⟨by rfl, ?_⟩) (by assumption) ?_; rotate_left; (focus ((intro w hSw; (try dsimp only at hSw); go_simp); (try (with_reducible rfl)); done)); (try simp only [List.getElem_toArray, List.getElem_cons_zero, List.getElem_cons_succ, Act.put, List.setIfInBounds_toArray, List.set_cons_zero, List.set_cons_succ]))
      (refine wpAnyH_take (i := 62) (v := ?_) rfl (by decide +kernel) (by decide +kernel) (by decide +kernel) (fun _ _ _ h => h) (Or.inl ⟨by rfl, ?_⟩) (by assumption) ?_; rotate_left; (focus ((intro w hSw; (try dsimp only at hSw); go_simp); (try (with_reducible rfl)); done)); (try simp only [List.getElem_toArray, List.getElem_cons_zero, List.getElem_cons_succ, Act.put, List.setIfInBounds_toArray, List.set_cons_zero, List.set_cons_succ]))
      (refine wpAnyH_take (i := 64) (v := ?_) rfl (by decide +kernel) (by decide +kernel) (by decide +kernel) (fun _ _ _ h => h) (Or.inl ⟨by rfl, ?_⟩) (by assumption) ?_; rotate_left; (focus ((intro w hSw; (try dsimp only at hSw); go_simp); (try (with_reducible rfl)); done)); (try simp only [List.getElem_toArray, List.getElem_cons_zero, List.getElem_cons_succ, Act.put, List.setIfInBounds_toArray, List.set_cons_zero, List.set_cons_succ]))
      (refine wpAnyH_ready (rs := [63]) (by decide +kernel) (by simp) ?_; refine AllReadyH.cons rfl (fun K hK => ?_) AllReadyH.nil; go_simp; (go_at_call 9; (with_reducible refine (CM.out _).mono ?_); rintro e wx ⟨A, B, rfl, HN, HP, hb⟩; replace HB := HB.up (Bel.hid hb); replace HQA := HQA.up (Bel.hid hb); replace HXA := HXA.up (Bel.hid hb); replace HNA := HNA.up (Bel.hid hb); replace HCA := HCA.up (Bel.hid hb); replace HQC := HQC.up (Bel.hid hb); replace HXC := HXC.up (Bel.hid hb); replace HQJ := HQJ.up (Bel.hid hb); replace HXJ := HXJ.up (Bel.hid hb); replace HQM := HQM.up (Bel.hid hb); replace HXM := HXM.up (Bel.hid hb); replace HCM := HCM.up (Bel.hid hb); replace HQ1 := HQ1.up (Bel.hid hb)); (try (go_wp2_with fail)); refine hK.out _ _ ?_ (fun hHeld => ?_); (focus ((try dsimp only); (exact ⟨HXA.c0, HXC.c0, HXJ.c0, HXM.c0, HCA.ci (i := 2) rfl, HCM.ci (i := 3) rfl, HCM.ci (i := 4) rfl, HCM.ci (i := 5) rfl⟩))); clear hK K; (try simp only [List.getElem_toArray, List.getElem_cons_zero, List.getElem_cons_succ, Act.put, List.setIfInBounds_toArray, List.set_cons_zero, List.set_cons_succ]))
      (refine wpAnyH_ready (rs := [65]) (by decide +kernel) (by simp) ?_; refine AllReadyH.cons rfl (fun K hK => ?_) AllReadyH.nil; go_simp; (go_at_call 13; (with_reducible refine (CGM.out _ _ _ _ _ HN HP HQM).mono ?_); rintro e wx ⟨rfl, hb⟩; replace HB := HB.up (Bel.hid hb); replace HQA := HQA.up (Bel.hid hb); replace HXA := HXA.up (Bel.hid hb); replace HNA := HNA.up (Bel.hid hb); replace HCA := HCA.up (Bel.hid hb); replace HQC := HQC.up (Bel.hid hb); replace HXC := HXC.up (Bel.hid hb); replace HQJ := HQJ.up (Bel.hid hb); replace HXJ := HXJ.up (Bel.hid hb); replace HQM := HQM.up (Bel.hid hb); replace HXM := HXM.up (Bel.hid hb); replace HCM := HCM.up (Bel.hid hb); replace HQ1 := HQ1.up (Bel.hid hb); clear HN HP); (try (go_wp2_with fail)); refine hK.out _ _ ?_ (fun hHeld => ?_); (focus ((try dsimp only); (exact ⟨HXA.c0, HXC.c0, HXJ.c0, HXM.c0, HCA.ci (i := 2) rfl, HCM.ci (i := 3) rfl, HCM.ci (i := 4) rfl, HCM.ci (i := 5) rfl⟩))); clear hK K; (try simp only [List.getElem_toArray, List.getElem_cons_zero, List.getElem_cons_succ, Act.put, List.setIfInBounds_toArray, List.set_cons_zero, List.set_cons_succ]))
      (refine wpAnyH_take (i := 66) (v := ?_) rfl (by decide +kernel) (by decide +kernel) (by decide +kernel) (fun _ _ _ h => h) (Or.inl ⟨by rfl, ?_⟩) (by assumption) ?_; rotate_left; (focus ((intro w hSw; (try dsimp only at hSw); go_simp); (try (with_reducible rfl)); done)); (try simp only [List.getElem_toArray, List.getElem_cons_zero, List.getElem_cons_succ, Act.put, List.setIfInBounds_toArray, List.set_cons_zero, List.set_cons_succ]))
      (refine wpAnyH_take (i := 67) (v := ?_) rfl (by decide +kernel) (by decide +kernel) (by decide +kernel) (fun _ _ _ h => h) (Or.inl ⟨by rfl, ?_⟩) (by assumption) ?_; rotate_left; (focus ((intro w hSw; (try dsimp only at hSw); go_simp); (try (with_reducible rfl)); done)); (try simp only [List.getElem_toArray, List.getElem_cons_zero, List.getElem_cons_succ, Act.put, List.setIfInBounds_toArray, List.set_cons_zero, List.set_cons_succ]))
      (refine wpAnyH_take (i := 69) (v := ?_) rfl (by decide +kernel) (by decide +kernel) (by decide +kernel) (fun _ _ _ h => h) (Or.inl ⟨by rfl, ?_⟩) (by assumption) ?_; rotate_left; (focus ((intro w hSw; (try dsimp only at hSw); go_simp); (try (with_reducible rfl)); done)); (try simp only [List.getElem_toArray, List.getElem_cons_zero, List.getElem_cons_succ, Act.put, List.setIfInBounds_toArray, List.set_cons_zero, List.set_cons_succ]))
      (refine wpAnyH_ready (rs := [68]) (by decide +kernel) (by simp) ?_; refine AllReadyH.cons rfl (fun K hK => ?_) AllReadyH.nil; go_simp; (go_at_call 9; (with_reducible refine (CM.out _).mono ?_); rintro e wx ⟨A, B, rfl, HN, HP, hb⟩; replace HB := HB.up (Bel.hid hb); replace HQA := HQA.up (Bel.hid hb); replace HXA := HXA.up (Bel.hid hb); replace HNA := HNA.up (Bel.hid hb); replace HCA := HCA.up (Bel.hid hb); replace HQC := HQC.up (Bel.hid hb); replace HXC := HXC.up (Bel.hid hb); replace HQJ := HQJ.up (Bel.hid hb); replace HXJ := HXJ.up (Bel.hid hb); replace HQM := HQM.up (Bel.hid hb); replace HXM := HXM.up (Bel.hid hb); replace HCM := HCM.up (Bel.hid hb); replace HQ1 := HQ1.up (Bel.hid hb)); (try (go_wp2_with fail)); refine hK.out _ _ ?_ (fun hHeld => ?_); (focus ((try dsimp only); (exact ⟨HXA.c0, HXC.c0, HXJ.c0, HXM.c0, HCA.ci (i := 2) rfl, HCM.ci (i := 3) rfl, HCM.ci (i := 4) rfl, HCM.ci (i := 5) rfl⟩))); clear hK K; (try simp only [List.getElem_toArray, List.getElem_cons_zero, List.getElem_cons_succ, Act.put, List.setIfInBounds_toArray, List.set_cons_zero, List.set_cons_succ]))
      (refine wpAnyH_ready (rs := [70]) (by decide +kernel) (by simp) ?_; refine AllReadyH.cons rfl (fun K hK => ?_) AllReadyH.nil; go_simp; (go_at_call 13; (with_reducible refine (CGN.out _ _ _ HN HP).mono ?_); rintro e wx ⟨rfl, hb⟩; replace HB := HB.up (Bel.hid hb); replace HQA := HQA.up (Bel.hid hb); replace HXA := HXA.up (Bel.hid hb); replace HNA := HNA.up (Bel.hid hb); replace HCA := HCA.up (Bel.hid hb); replace HQC := HQC.up (Bel.hid hb); replace HXC := HXC.up (Bel.hid hb); replace HQJ := HQJ.up (Bel.hid hb); replace HXJ := HXJ.up (Bel.hid hb); replace HQM := HQM.up (Bel.hid hb); replace HXM := HXM.up (Bel.hid hb); replace HCM := HCM.up (Bel.hid hb); replace HQ1 := HQ1.up (Bel.hid hb); clear HN HP); (try (go_wp2_with fail)); refine hK.out _ _ ?_ (fun hHeld => ?_); (focus ((try dsimp only); (exact ⟨HXA.c0, HXC.c0, HXJ.c0, HXM.c0, HCA.ci (i := 2) rfl, HCM.ci (i := 3) rfl, HCM.ci (i := 4) rfl, HCM.ci (i := 5) rfl⟩))); clear hK K; (try simp only [List.getElem_toArray, List.getElem_cons_zero, List.getElem_cons_succ, Act.put, List.setIfInBounds_toArray, List.set_cons_zero, List.set_cons_succ]))
      (refine wpAnyH_take (i := 71) (v := ?_) rfl (by decide +kernel) (by decide +kernel) (by decide +kernel) (fun _ _ _ h => h) (Or.inl ⟨by rfl, ?_⟩) (by assumption) ?_; rotate_left; (focus ((intro w hSw; (try dsimp only at hSw); go_simp); (try (with_reducible rfl)); done)); (try simp only [List.getElem_toArray, List.getElem_cons_zero, List.getElem_cons_succ, Act.put, List.setIfInBounds_toArray, List.set_cons_zero, List.set_cons_succ]))
      (refine wpAnyH_take (i := 72) (v := ?_) rfl (by decide +kernel) (by decide +kernel) (by decide +kernel) (fun _ _ _ h => h) (Or.inl ⟨by rfl, ?_⟩) (by assumption) ?_; rotate_left; (focus ((intro w hSw; (try dsimp only at hSw); go_simp); (try (with_reducible rfl)); done)); (try simp only [List.getElem_toArray, List.getElem_cons_zero, List.getElem_cons_succ, Act.put, List.setIfInBounds_toArray, List.set_cons_zero, List.set_cons_succ]))
      (refine wpAnyH_take (i := 73) (v := ?_) rfl (by decide +kernel) (by decide +kernel) (by decide +kernel) (fun _ _ _ h => h) (Or.inl ⟨by rfl, ?_⟩) (by assumption) ?_; rotate_left; (focus ((intro w hSw; (try dsimp only at hSw); go_simp); (try (with_reducible rfl)); done)); (try simp only [List.getElem_toArray, List.getElem_cons_zero, List.getElem_cons_succ, Act.put, List.setIfInBounds_toArray, List.set_cons_zero, List.set_cons_succ]))
      (refine wpAnyH_take (i := 74) (v := ?_) rfl (by decide +kernel) (by decide +kernel) (by decide +kernel) (fun _ _ _ h => h) (Or.inl ⟨by rfl, ?_⟩) (by assumption) ?_; rotate_left; (focus ((intro w hSw; (try dsimp only at hSw); go_simp); (try (with_reducible rfl)); done)); (try simp only [List.getElem_toArray, List.getElem_cons_zero, List.getElem_cons_succ, Act.put, List.setIfInBounds_toArray, List.set_cons_zero, List.set_cons_succ]))
      (refine wpAnyH_take (i := 75) (v := ?_) rfl (by decide +kernel) (by decide +kernel) (by decide +kernel) (fun _ _ _ h => h) (Or.inl ⟨by rfl, ?_⟩) (by assumption) ?_; rotate_left; (focus ((intro w hSw; (try dsimp only at hSw); go_simp); (try (with_reducible rfl)); done)); (try simp only [List.getElem_toArray, List.getElem_cons_zero, List.getElem_cons_succ, Act.put, List.setIfInBounds_toArray, List.set_cons_zero, List.set_cons_succ]))
      (refine wpAnyH_take (i := 76) (v := ?_) rfl (by decide +kernel) (by decide +kernel) (by decide +kernel) (fun _ _ _ h => h) (Or.inl ⟨by rfl, ?_⟩) (by assumption) ?_; rotate_left; (focus ((intro w hSw; (try dsimp only at hSw); go_simp); (try (with_reducible rfl)); done)); (try simp only [List.getElem_toArray, List.getElem_cons_zero, List.getElem_cons_succ, Act.put, List.setIfInBounds_toArray, List.set_cons_zero, List.set_cons_succ]))
      (refine wpAnyH_take (i := 77) (v := ?_) rfl (by decide +kernel) (by decide +kernel) (by decide +kernel) (fun _ _ _ h => h) (Or.inl ⟨by rfl, ?_⟩) (by assumption) ?_; rotate_left; (focus ((intro w hSw; (try dsimp only at hSw); go_simp); (try (with_reducible rfl)); done)); (try simp only [List.getElem_toArray, List.getElem_cons_zero, List.getElem_cons_succ, Act.put, List.setIfInBounds_toArray, List.set_cons_zero, List.set_cons_succ]))
      (refine wpAnyH_ready (rs := [78]) (by decide +kernel) (by simp) ?_; refine AllReadyH.cons rfl (fun K hK => ?_) AllReadyH.nil; go_simp; (go_at_call 14; (with_reducible refine (CL.out _ _ _ _ HQ1).mono ?_); rintro e wx ⟨rfl, hb⟩; replace HB := HB.up hb; replace HQA := HQA.up hb; replace HXA := HXA.up hb; replace HNA := HNA.up hb; replace HCA := HCA.up hb; replace HQC := HQC.up hb; replace HXC := HXC.up hb; replace HQJ := HQJ.up hb; replace HXJ := HXJ.up hb; replace HQM := HQM.up hb; replace HXM := HXM.up hb; replace HCM := HCM.up hb; replace HQ1 := HQ1.up hb); (try (go_wp2_with fail)); refine hK.out _ _ ?_ (fun hHeld => ?_); (focus ((try dsimp only); (exact ⟨HXA.c0, HXC.c0, HXJ.c0, HXM.c0, HCA.ci (i := 2) rfl, HCM.ci (i := 3) rfl, HCM.ci (i := 4) rfl, HCM.ci (i := 5) rfl⟩))); clear hK K; (try simp only [List.getElem_toArray, List.getElem_cons_zero, List.getElem_cons_succ, Act.put, List.setIfInBounds_toArray, List.set_cons_zero, List.set_cons_succ]))
      (refine wpAnyH_take (i := 79) (v := ?_) rfl (by decide +kernel) (by decide +kernel) (by decide +kernel) (fun _ _ _ h => h) (Or.inl ⟨by rfl, ?_⟩) (by assumption) ?_; rotate_left; (focus ((intro w hSw; (try dsimp only at hSw); go_simp); (try (with_reducible rfl)); done)); (try simp only [List.getElem_toArray, List.getElem_cons_zero, List.getElem_cons_succ, Act.put, List.setIfInBounds_toArray, List.set_cons_zero, List.set_cons_succ]))
      (refine wpAnyH_take (i := 80) (v := ?_) rfl (by decide +kernel) (by decide +kernel) (by decide +kernel) (fun _ _ _ h => h) (Or.inl ⟨by rfl, ?_⟩) (by assumption) ?_; rotate_left; (focus ((intro w hSw; (try dsimp only at hSw); go_simp); (try (with_reducible rfl)); done)); (try simp only [List.getElem_toArray, List.getElem_cons_zero, List.getElem_cons_succ, Act.put, List.setIfInBounds_toArray, List.set_cons_zero, List.set_cons_succ]))
      (refine wpAnyH_take (i := 81) (v := ?_) rfl (by decide +kernel) (by decide +kernel) (by decide +kernel) (fun _ _ _ h => h) (Or.inl ⟨by rfl, ?_⟩) (by assumption) ?_; rotate_left; (focus ((intro w hSw; (try dsimp only at hSw); go_simp); (try (with_reducible rfl)); done)); (try simp only [List.getElem_toArray, List.getElem_cons_zero, List.getElem_cons_succ, Act.put, List.setIfInBounds_toArray, List.set_cons_zero, List.set_cons_succ]))
      refine wpAnyH_done (by decide +kernel) ?_ _
      go_wp2_with fail
      go_ret
      exact ⟨rfl, HB⟩
end Go.Proofs.YthdpojkeceoiiaaGreatDoor
