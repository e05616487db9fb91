/- Several texts in one, each with its own sentence and conditions. -/
import Derived.Test.YthdpojkeceoiiaaGreatDoorGOmc19
import Derived.Test.YthdpojkeceoiiaaGreatDoorGOmc25
import Derived.Deep.CutRange
import Derived.Test.YthdpojkeceoiiaaGreatDoorGOmc20
section
/- unit.Norm. Conditions: parts of at most 12 atoms each, powers that fit. -/
open Go.RowKit
set_option maxRecDepth 100000
namespace Go.Proofs.YthdpojkeceoiiaaGreatDoor
/-- A part in order. -/
def normQ (q : QL) : Option QL := (combL q.1).bind fun a => (combL q.2.1).bind fun b => some (a, b, digs W32 (val W32 q.2.2))
def normQs : List QL → Option (List QL)
  | [] => some []
  | q :: qs => (normQ q).bind fun r => (normQs qs).bind fun rs => some (r :: rs)
theorem normQs_bad : ∀ {qs : List QL} {k : Nat} {q : QL}, qs[k]? = some q → normQ q = none → normQs qs = none
  | [], k, q, h, _ => by simp at h
  | p :: qs, 0, q, h, h0 => by
    simp at h; subst h
    show (normQ p).bind _ = none
    rw [h0]; rfl
  | p :: qs, k + 1, q, h, h0 => by
    have := normQs_bad (qs := qs) (k := k) (by simpa using h) h0
    show (normQ p).bind (fun r => (normQs qs).bind _) = none
    rw [this]; cases normQ p <;> rfl
theorem normQs_take : ∀ {qs : List QL} {k : Nat} {q r : QL} {rs : List QL}, qs[k]? = some q → normQ q = some r → normQs (qs.take k) = some rs → normQs (qs.take (k + 1)) = some (rs ++ [r])
  | [], k, q, r, rs, h, _, _ => by simp at h
  | p :: qs, 0, q, r, rs, h, h0, h1 => by
    simp at h; subst h
    simp [normQs] at h1
    subst h1
    simp [normQs, h0]
  | p :: qs, k + 1, q, r, rs, h, h0, h1 => by
    rw [List.take_succ_cons] at h1 ⊢
    simp only [normQs] at h1 ⊢
    cases hp : normQ p with
    | none => rw [hp] at h1; cases h1
    | some p' =>
      rw [hp] at h1
      cases ht : normQs (qs.take k) with
      | none => rw [ht] at h1; cases h1
      | some rs' =>
        rw [ht] at h1
        simp at h1
        subst h1
        have := normQs_take (qs := qs) (k := k) (by simpa using h) h0 ht
        rw [this]; rfl
/-- What Norm hands back. -/
def NormR (W : World) (r : Option (List QL)) (e : Ending) (w' : World) : Prop := match r with
  | none => e = .returned (.tuple #[.agg #[.slice none 0 0], .int .i64 11]) ∧ Bel W w'
  | some l => ∃ g c, e = .returned (.tuple #[.agg #[.slice (some ⟨g, 0, none⟩) l.length c], .int .i64 0]) ∧ Qs w' (some ⟨g, 0, none⟩) l ∧ Bel W w'
def FitN (q : QL) : Prop := q.1.length ≤ 12 ∧ q.2.1.length ≤ 12 ∧ PowsQ q.1 ∧ PowsQ q.2.1
set_option maxHeartbeats 8000000 in
theorem norm_any {w : World} {A : Option Addr} {n c : Nat} {qs : List QL} (h : Qs w A qs) (hn : n = qs.length) (hl : n ≤ 1000) (hf : ∀ q ∈ qs, FitN q) {res : Option (List QL)} (hres : normQs qs = res) :
    Calls Tryz.prog 10 #[.agg #[.slice A n c]] w (NormR w res) := by
  obtain ⟨W1, hW1⟩ : ∃ X, X = (w.alloc (.cells #[.slice A n c] 26)).alloc (.cells #[.slice none 0 0] 26) := ⟨_, rfl⟩
  have HK : At W1 w.heap.size [.slice A n c] := by rw [hW1]; exact (at_new0 _ _ _).al _
  have HR : At W1 (w.heap.size + 1) [.slice none 0 0] := by rw [hW1]; exact at_new1 _ _ _ _
  have HB : Bel w W1 := by rw [hW1]; exact ((Bel.refl w).al _).al _
  have HQ1 : Qs W1 A qs := by rw [hW1]; exact (h.al _).al _
  have HN := khide hn
  have HF := khide hf
  have HRES := khide hres
  have hmk : ∀ W : World, (Instr.makeSlice 24 (.int .i64 (n : Int)) (.int .i64 (n : Int))).run Tryz.prog W = .ok (.slice (some ⟨W.heap.size, 0, none⟩) n n) (W.alloc (.cells (madeCells #[.slice none 0 0, .slice none 0 0, .slice none 0 0] (n * 3)) 41)) := fun W => make_parts n (by omega) W
  have HW := khide hW1
  have hk_0 := HK.c0; have hk_l := HK.lt
  clear hW1 h hn hf hres
  go_enter Tryz.func10, Tryz.ntmps10
  go_upto_region 1 with fail
  rw [← HW.out]
  go_upto_region 2 with fail
  refine kwp_named ?_
  intro W4 hW4
  have HP : RowP W4 W1.heap.size n [] := by rw [hW4]; exact made_parts _ _ _
  have HG : Hid (w.heap.size + 1 < W1.heap.size) := HR.lt
  replace HK : At W4 w.heap.size [.slice A n c] := by rw [hW4]; exact HK.al _
  replace HR : At W4 (w.heap.size + 1) [.slice none 0 0] := by rw [hW4]; exact HR.al _
  replace HB : Bel w W4 := by rw [hW4]; exact HB.al _
  have HQ4 : Qs W4 A qs := by rw [hW4]; exact HQ1.al _
  have hb4 : Hid (Below W1.heap.size W1 W4) := by rw [hW4]; exact (Below.refl _ _).alloc (Nat.le_refl _) _
  obtain ⟨g, hg⟩ : ∃ g, g = W1.heap.size := ⟨_, rfl⟩
  rw [← hg] at HP HG
  rw [← hg]
  have HG2 := khide hg
  clear hW4 hg hmk hk_0 hk_l HW HQ4
  have hk_0 := HK.c0; have hk_l := HK.lt
  go_wp2_with fail
  clear hk_0 hk_l
  go_loopw [18] (fun iv wr => ∃ (k : Nat) (r : List QL), k ≤ n ∧ iv = .int .i64 (k : Int) ∧ r.length = k ∧ Hid (normQs (qs.take k) = some r) ∧ RowP wr g n r ∧ Hid (At wr (w.heap.size + 1) [.slice none 0 0]) ∧ Hid (Below W1.heap.size W1 wr) ∧ Hid (Bel w wr)) (fun iv _ => n - (intOf iv).toNat)
  case atStart => exact ⟨0, [], Nat.zero_le _, rfl, rfl, rfl, HP, HR, hb4, HB⟩
  case round =>
    clear HP HK HR HB hb4
    obtain ⟨k, r, hk, rfl, hrk, HV, HP, HR, HB3, HB⟩ := hrel
    have HR' := HR.out
    by_cases hlt : k < n
    · obtain ⟨q, hq⟩ : ∃ a, qs[k]? = some a := ⟨qs[k]'(by rw [← HN.out]; exact hlt), List.getElem?_eq_getElem _⟩
      obtain ⟨ad, v1, v2, v3, rfl, had, a0, a1, a2, HQ⟩ := (HQ1.up HB3).at_ hq
      obtain ⟨A1, c1, A2, c2, A3, c3, rfl, rfl, rfl, b1, b2, b3, b4, HC1, HC2, HNM, -, -⟩ := HQ.open_
      have hfit := HF.out q (List.mem_of_getElem? hq)
      have HH := khide hq
      obtain ⟨l1, l2, ws⟩ := q
      obtain ⟨f1, f2, f3, f4⟩ := hfit
      dsimp only at a0 a1 a2 HC1 HC2 HNM b1 b2 b3 b4 f1 f2 f3 f4
      obtain ⟨n1, hn1⟩ : ∃ x, x = l1.length := ⟨_, rfl⟩
      obtain ⟨n2, hn2⟩ : ∃ x, x = l2.length := ⟨_, rfl⟩
      obtain ⟨n3, hn3⟩ : ∃ x, x = ws.length := ⟨_, rfl⟩
      obtain ⟨v, hv⟩ : ∃ x, x = val W32 ws := ⟨_, rfl⟩
      rw [← hn1] at a0 b1 f1
      rw [← hn2] at a1 b2 f2
      rw [← hn3] at a2 b3 b4 HNM
      rw [← hv] at HNM
      obtain ⟨ra, hra⟩ : ∃ x, combL l1 = x := ⟨_, rfl⟩
      obtain ⟨rb, hrb⟩ : ∃ x, combL l2 = x := ⟨_, rfl⟩
      have CA : Hid (∀ W : World, Cs W A1 (cellsA l1) → Calls Tryz.prog 26 #[.slice A1 n1 c1] W (AtomsP W ra)) := fun W hs => combine_any hs hn1 f1 f3 hra
      have CB : Hid (∀ W : World, Cs W A2 (cellsA l2) → Calls Tryz.prog 26 #[.slice A2 n2 c2] W (AtomsP W rb)) := fun W hs => combine_any hs hn2 f2 f4 hrb
      have HNQ : Hid (normQ (l1, l2, ws) = ra.bind fun a => rb.bind fun b => some (a, b, digs W32 v)) := by unfold Hid normQ; rw [hra, hrb, hv]
      have CN : Hid (∀ W : World, Nm W A3 n3 c3 v → Calls Tryz.prog 27 #[.agg #[.slice A3 n3 c3], .agg #[.slice none 0 0]] W (NumR W v)) := fun W hN => add_h hN (nm_nil W none 0) (by simp) hN.dl
      have k0 : (0 : Int) ≤ (k : Int) := by omega
      have k1 : (k : Int) < (n : Int) := by omega
      clear hq hra hrb hv hn1 hn2 hn3 f1 f2 f3 f4 b1 b2 b3 b4 HQ
      go_upto_region 5 with fail
      refine kwp_named ?_
      intro W6 hW6
      have HX : At W6 wr.heap.size [.slice A1 n1 c1, .slice A2 n2 c2, .slice A3 n3 c3] := by rw [hW6]; exact at_new0 _ _ _
      replace HC1 : Cs W6 A1 (cellsA l1) := by rw [hW6]; exact HC1.al _
      replace HC2 : Cs W6 A2 (cellsA l2) := by rw [hW6]; exact HC2.al _
      replace HNM : Nm W6 A3 n3 c3 v := by rw [hW6]; exact HNM.al _
      have hpx : wr.heap.size ≠ w.heap.size + 1 := Nat.ne_of_gt HR'.lt
      have hgx : g ≠ wr.heap.size := Nat.ne_of_lt HP.lt
      replace HP : RowP W6 g n r := by rw [hW6]; exact HP.al _
      replace HR' : At W6 (w.heap.size + 1) [.slice none 0 0] := by rw [hW6]; exact HR'.al _
      replace HB : Bel w W6 := by rw [hW6]; exact HB.out.al _
      replace HB3 : Hid (Below W1.heap.size W1 W6) := by rw [hW6]; exact HB3.out.alloc HB3.out.size _
      obtain ⟨px, hpx2⟩ : ∃ x, x = wr.heap.size := ⟨_, rfl⟩
      rw [← hpx2] at HX hgx hpx
      rw [← hpx2]
      clear hW6 hpx2 HR had a0 a1 a2
      have hx_0 := HX.c0; have hx_1 := HX.c1; have hx_2 := HX.c2; have hx_l := HX.lt
      cases ra with
      | none =>
        have HE : Hid (res = none) := by unfold Hid; rw [← HRES.out]; exact normQs_bad HH.out HNQ.out
        go_upto_region 6 with (first | (go_at_call 26; (with_reducible refine (CA.out _ HC1).mono ?_); rintro e w7 ⟨rfl, hb7⟩; clear hx_0 hx_1 hx_2 hx_l; replace HX := HX.up hb7.hid; replace HR' := HR'.up hb7.hid; replace HB := HB.up hb7.hid; replace HB3 := khide (HB3.out.trans (hb7.hid.out.mono HB3.out.size)); replace HP := HP.up hb7.hid; replace HNM := HNM.up hb7.hid; replace HC2 := HC2.up hb7.hid; have hx_0 := HX.c0; have hx_1 := HX.c1; have hx_2 := HX.c2; have hx_l := HX.lt) | fail)
        cases rb with
        | none =>
          go_upto_region 7 with (first | (go_at_call 26; (with_reducible refine (CB.out _ HC2).mono ?_); rintro e w8 ⟨rfl, hb7⟩; clear hx_0 hx_1 hx_2 hx_l; replace HX := HX.up hb7.hid; replace HR' := HR'.up hb7.hid; replace HB := HB.up hb7.hid; replace HB3 := khide (HB3.out.trans (hb7.hid.out.mono HB3.out.size)); replace HP := HP.up hb7.hid; replace HNM := HNM.up hb7.hid;  have hx_0 := HX.c0; have hx_1 := HX.c1; have hx_2 := HX.c2; have hx_l := HX.lt) | fail)
          have hr_0 := HR'.c0; have hr_f0 := HR'.f0; have hr_l := HR'.lt
          go_wp2_with fail
          (try simp only [Exit.inBlock, Exit.then])
          refine bodyPost_ret (v := .tuple #[.agg #[.slice none 0 0], .int .i64 11]) (by simp [results, Tryz.results10, go_sem, hr_0, hr_l]) rfl ?_
          rw [HE.out]
          exact ⟨rfl, Below.setCell HB (Nat.le_succ _) _⟩
        | some b =>
          go_upto_region 7 with (first | (go_at_call 26; (with_reducible refine (CB.out _ HC2).mono ?_); rintro e w8 ⟨B2, d2, rfl, -, HO2, hb7⟩; clear hx_0 hx_1 hx_2 hx_l; replace HX := HX.up hb7.hid; replace HR' := HR'.up hb7.hid; replace HB := HB.up hb7.hid; replace HB3 := khide (HB3.out.trans (hb7.hid.out.mono HB3.out.size)); replace HP := HP.up hb7.hid; replace HNM := HNM.up hb7.hid;  have hx_0 := HX.c0; have hx_1 := HX.c1; have hx_2 := HX.c2; have hx_l := HX.lt) | fail)
          have hr_0 := HR'.c0; have hr_f0 := HR'.f0; have hr_l := HR'.lt
          go_wp2_with fail
          (try simp only [Exit.inBlock, Exit.then])
          refine bodyPost_ret (v := .tuple #[.agg #[.slice none 0 0], .int .i64 11]) (by simp [results, Tryz.results10, go_sem, hr_0, hr_l]) rfl ?_
          rw [HE.out]
          exact ⟨rfl, Below.setCell HB (Nat.le_succ _) _⟩
      | some a =>
        go_upto_region 6 with (first | (go_at_call 26; (with_reducible refine (CA.out _ HC1).mono ?_); rintro e w7 ⟨B1, d1, rfl, -, HO1, hb7⟩; clear hx_0 hx_1 hx_2 hx_l; replace HX := HX.up hb7.hid; replace HR' := HR'.up hb7.hid; replace HB := HB.up hb7.hid; replace HB3 := khide (HB3.out.trans (hb7.hid.out.mono HB3.out.size)); replace HP := HP.up hb7.hid; replace HNM := HNM.up hb7.hid; replace HC2 := HC2.up hb7.hid; have hx_0 := HX.c0; have hx_1 := HX.c1; have hx_2 := HX.c2; have hx_l := HX.lt) | fail)
        have h1 := own_cap HO1.out
        replace HO1 : Cs w7 B1 (cellsA a) := Cs.of_own HO1.out
        cases rb with
        | none =>
          have HE : Hid (res = none) := by unfold Hid; rw [← HRES.out]; exact normQs_bad HH.out HNQ.out
          go_upto_region 7 with (first | (go_at_call 26; (with_reducible refine (CB.out _ HC2).mono ?_); rintro e w8 ⟨rfl, hb7⟩; clear hx_0 hx_1 hx_2 hx_l; replace HX := HX.up hb7.hid; replace HR' := HR'.up hb7.hid; replace HB := HB.up hb7.hid; replace HB3 := khide (HB3.out.trans (hb7.hid.out.mono HB3.out.size)); replace HP := HP.up hb7.hid; replace HNM := HNM.up hb7.hid;  have hx_0 := HX.c0; have hx_1 := HX.c1; have hx_2 := HX.c2; have hx_l := HX.lt) | fail)
          have hr_0 := HR'.c0; have hr_f0 := HR'.f0; have hr_l := HR'.lt
          go_wp2_with fail
          (try simp only [Exit.inBlock, Exit.then])
          refine bodyPost_ret (v := .tuple #[.agg #[.slice none 0 0], .int .i64 11]) (by simp [results, Tryz.results10, go_sem, hr_0, hr_l]) rfl ?_
          rw [HE.out]
          exact ⟨rfl, Below.setCell HB (Nat.le_succ _) _⟩
        | some b =>
          have HV2 : Hid (normQs (qs.take (k + 1)) = some (r ++ [(a, b, digs W32 v)])) := normQs_take HH.out HNQ.out HV.out
          go_upto_region 7 with (first | (go_at_call 26; (with_reducible refine (CB.out _ HC2).mono ?_); rintro e w8 ⟨B2, d2, rfl, -, HO2, hb7⟩; clear hx_0 hx_1 hx_2 hx_l; replace HX := HX.up hb7.hid; replace HR' := HR'.up hb7.hid; replace HB := HB.up hb7.hid; replace HB3 := khide (HB3.out.trans (hb7.hid.out.mono HB3.out.size)); replace HP := HP.up hb7.hid; replace HNM := HNM.up hb7.hid;  have hx_0 := HX.c0; have hx_1 := HX.c1; have hx_2 := HX.c2; have hx_l := HX.lt) | fail)
          have h2 := own_cap HO2.out
          replace HO2 : Cs w8 B2 (cellsA b) := Cs.of_own HO2.out
          replace HO1 : Cs w8 B1 (cellsA a) := HO1.up hb7.hid
          have ha1 : a.length ≤ 1000000 ∨ True := Or.inr trivial
          clear ha1
          go_upto_region 9 with fail
          have gl := HP.lt
          obtain ⟨z0, f0⟩ := HP.zero hrk hlt 0 (by omega)
          obtain ⟨z1, f1⟩ := HP.zero hrk hlt 1 (by omega)
          obtain ⟨z2, f2⟩ := HP.zero hrk hlt 2 (by omega)
          simp only [Nat.add_zero] at z0 f0
          go_upto_region 10 with (first | (go_at_call 27; (with_reducible refine (CN.out _ HNM).mono ?_); rintro e w9 ⟨B3, d3, rfl, HN9, hb9⟩; clear hx_0 hx_1 hx_2 hx_l z0 z1 z2 f0 f1 f2 gl; replace HR' := HR'.up hb9; replace HB := HB.up hb9; replace HB3 := khide (HB3.out.trans (hb9.out.mono HB3.out.size)); replace HP := HP.up hb9; replace HO1 := HO1.up hb9; replace HO2 := HO2.up hb9; have gl := HP.lt; obtain ⟨z0, f0⟩ := HP.zero hrk hlt 0 (by omega); obtain ⟨z1, f1⟩ := HP.zero hrk hlt 1 (by omega); obtain ⟨z2, f2⟩ := HP.zero hrk hlt 2 (by omega); simp only [Nat.add_zero] at z0 f0) | fail)
          have HQ9 : Q1 w9 (.slice B1 a.length d1) (.slice B2 b.length d2) (.slice B3 (dl v) d3) (a, b, digs W32 v) := q1_mk HO1 h1 HO2 h2 HN9
          have HP2 := HP.put hrk hlt HQ9
          have hgr : g ≠ w.heap.size + 1 := by have := HG.out; omega
          have HR2 := ((HR'.far hgr (i := k * 3) (.slice B1 a.length d1)).far hgr (i := k * 3 + 1) (.slice B2 b.length d2)).far hgr (i := k * 3 + 2) (.slice B3 (dl v) d3)
          have HB2 : Bel w (((w9.setCell ⟨g, k * 3, none⟩ (.slice B1 a.length d1)).setCell ⟨g, k * 3 + 1, none⟩ (.slice B2 b.length d2)).setCell ⟨g, k * 3 + 2, none⟩ (.slice B3 (dl v) d3)) := by
            have hwg : w.heap.size ≤ g := by have := HG.out; omega
            exact Below.setCell (Below.setCell (Below.setCell HB hwg _) hwg _) hwg _
          have HB4 : Hid (Below W1.heap.size W1 (((w9.setCell ⟨g, k * 3, none⟩ (.slice B1 a.length d1)).setCell ⟨g, k * 3 + 1, none⟩ (.slice B2 b.length d2)).setCell ⟨g, k * 3 + 2, none⟩ (.slice B3 (dl v) d3))) := by
            have hwg : W1.heap.size ≤ g := by rw [HG2.out]; exact Nat.le_refl _
            exact Below.setCell (Below.setCell (Below.setCell HB3.out hwg _) hwg _) hwg _
          have HP3 := khide HP2; have HR3 := khide HR2; have HB5 := khide HB2
          clear HP2 HR2 HB2 HP HR' HB HB3 HQ9
          go_wp2_with fail
          go_roundw
          case rel => exact ⟨k + 1, r ++ [(a, b, digs W32 v)], by omega, by go_num, by rw [List.length_append, hrk]; rfl, HV2, HP3.out, HR3, HB4, HB5⟩
          case measure => simp [intOf]; omega
    · obtain rfl : k = n := by omega
      have HE : Hid (res = some r) := by
        have h9 := HV.out
        rw [List.take_of_length_le (by rw [← HN.out]; exact Nat.le_refl _)] at h9
        unfold Hid; rw [← HRES.out]; exact h9
      have hr_0 := HR'.c0; have hr_f0 := HR'.f0; have hr_l := HR'.lt
      go_wp2_with fail
      (try simp only [Exit.inBlock, Exit.then])
      refine bodyPost_ret (v := .tuple #[.agg #[.slice (some ⟨g, 0, none⟩) k k], .int .i64 0]) (by simp [results, Tryz.results10, go_sem, hr_0, hr_l]) rfl ?_
      rw [HE.out]
      refine ⟨g, k, by rw [hrk], ?_, Below.setCell HB.out (Nat.le_succ _) _⟩
      exact (HP.far (by have := HG.out; omega) HR'.c0 _).rq
end Go.Proofs.YthdpojkeceoiiaaGreatDoor
end

section
/- unit.appendShown. Conditions: atoms that fit. -/
open Go.RowKit
set_option maxRecDepth 100000
namespace Go.Proofs.YthdpojkeceoiiaaGreatDoor
/-- A row of strings that a caller above W0 owns. -/
def AppR (W0 : World) (zs : List ByteArray) (e : Ending) (w' : World) : Prop := ∃ R c z, Hid (z = zs.length) ∧ e = .returned (.slice R z c) ∧ Hid (w'.ownsRow W0.heap.size 9 1 (.slice R z c) z (zs.map Value.string)) ∧ Hid (Below W0.heap.size W0 w')
set_option maxHeartbeats 4000000 in
theorem appendShown_any {W0 : World} {A R : Option Addr} {n c z cp : Nat} {l : List AL} {xs : List ByteArray} {w : World} (hB : Hid (Below W0.heap.size W0 w)) (h : Cs W0 A (cellsA l)) (hn : n = l.length) (hl : n ≤ 1000) (hz : z = xs.length) (hzl : z ≤ 1000000) (ho : Hid (w.ownsRow W0.heap.size 9 1 (.slice R z cp) z (xs.map Value.string))) (hs : ∀ a ∈ l, a.1.size ≤ 2000000 ∧ a.2.1.size ≤ 2000000) :
    Calls Tryz.prog 38 #[.slice R z cp, .slice A n c] w (AppR W0 (xs ++ showsA l)) := by
  have HN := khide hn
  have HS := khide hs
  have HZ := khide hz
  obtain ⟨i0, hi, hz0, hz1, hz2⟩ := info_parts hinfoStr
  have J0 := khide hi; have Y0 := khide hz0; have Y1 := khide hz1; have Y2 := khide hz2
  clear hi hz0 hz1 hz2 hn hs hz
  go_enter Tryz.func38, Tryz.ntmps38
  go_wp2
  go_loopw [0, 9] (fun rv iv wr => ∃ (k cp q : Nat) (R : Option Addr), k ≤ n ∧ iv = .int .i64 (k : Int) ∧ rv = .slice R q cp ∧ q = z + k ∧ Hid (wr.ownsRow W0.heap.size 9 1 (.slice R q cp) q ((xs ++ showsA (l.take k)).map Value.string)) ∧ Hid (Below W0.heap.size W0 wr)) (fun _ iv _ => n - (intOf iv).toNat)
  case atStart => exact ⟨0, cp, z, R, Nat.zero_le _, rfl, rfl, rfl, (by rw [show xs ++ showsA (l.take 0) = xs by simp [showsA]]; exact ho), hB⟩
  case round =>
    clear ho hB
    obtain ⟨k, cp, q, R, hk, rfl, rfl, hq, HO, HB⟩ := hrel
    by_cases hlt : k < n
    · obtain ⟨a, ha⟩ : ∃ a, l[k]? = some a := ⟨l[k]'(by rw [← HN.out]; exact hlt), List.getElem?_eq_getElem _⟩
      obtain ⟨ad, rfl, had, a0, a1, a2⟩ := cs_at3 (h.up HB) ha
      obtain ⟨p, nm, pk⟩ := a
      have HSZ : Hid (p.size ≤ 2000000 ∧ nm.size ≤ 2000000) := HS.out _ (List.mem_of_getElem? ha)
      obtain ⟨s, hse⟩ : ∃ s, showB p nm pk = s := ⟨_, rfl⟩
      have C0 : Hid (∀ W : World, Calls Tryz.prog 66 #[.agg #[.string p, .string nm, .int .i64 pk]] W (StrR W s)) := fun W => hse ▸ show_any (by have := HSZ.out; omega) W
      have HX : Hid ((xs ++ showsA (l.take (k + 1))).map Value.string = (xs ++ showsA (l.take k)).map Value.string ++ [.string s]) := by
        obtain ⟨hx, hx2⟩ := List.getElem?_eq_some_iff.1 ha
        unfold Hid
        rw [List.take_succ_eq_append_getElem hx, hx2]
        unfold showsA
        have e1 : (l.take k ++ [(p, nm, pk)]).map showA = (l.take k).map showA ++ [s] := by rw [List.map_append, ← hse]; rfl
        rw [e1, ← List.append_assoc, List.map_append]
        rfl
      have HBS : Hid (W0.heap.size ≤ wr.heap.size) := HB.out.size
      have k0 : (0 : Int) ≤ (k : Int) := by omega
      have k1 : (k : Int) < (n : Int) := by omega
      have hql : q ≤ 1001000 := by omega
      have HQ := khide hq
      clear ha hse hq
      go_wp2_with (first | (go_at_call 66; (with_reducible refine (C0.out _).mono ?_); rintro e w2 ⟨rfl, hb2⟩) | (at_builtin; go_must (refine wpList_append_own _ rfl (.tmp 13) (.tmp 16) 23 rfl W0.heap.size 9 i0 (.string ByteArray.empty) 1 16 Tryz.underlying23 J0.out Y0.out Y1.out Y2.out rfl (by decide) _ _ _ rfl ((own_up (HO.out.alloc _) hb2).alloc _) ⟨w2.heap.size, 0, none⟩ 1 1 [.string s] rfl rfl (at_news (at_new0 _ _ _)) (one_str _) (by simp only [maxLen]; omega) (by omega) (Nat.le_trans HBS.out (Nat.le_trans (Nat.le_trans (by simp) hb2.out.size) (by simp))) ?_); intro v1 w3 ho1 hg1 hn1; clear hn1) | fail)
      have hg2 : (w2.alloc (.cells #[.string s] 9)).grownBy w3 (Value.slice R q cp).ownBlock := hg1
      have HO2 := own_up (HO.out.alloc (.cells #[.string p, .string nm, .int .i64 pk] 59)) hb2
      have HB2 : Hid (Below W0.heap.size W0 w2) := (HB.out.alloc HBS.out _).trans (hb2.out.mono (Nat.le_trans HBS.out (by simp)))
      have HB3 : Hid (Below W0.heap.size W0 w3) := (HB2.out.alloc HB2.out.size _).grown hg2 (HB2.out.alloc HB2.out.size _).size (fun g' e => (HO2.lt g' e).1)
      obtain ⟨R2, cp2, rfl, _⟩ := own_slice ho1
      have HO3 := khide ho1
      clear hg1 hg2 ho1 HO2
      go_roundw
      case rel =>
        refine ⟨k + 1, cp2, q + 1, R2, by omega, by go_num, rfl, (by have := HQ.out; omega), ?_, HB3⟩
        rw [HX.out]
        exact HO3
      case measure => simp [intOf]; omega
    · obtain rfl : k = n := by omega
      go_wp2
      go_ret
      have h3 := HO.out
      rw [List.take_of_length_le (by rw [← HN.out]; exact Nat.le_refl _)] at h3
      have e : (xs ++ showsA l).length = q := by unfold showsA; rw [List.length_append, List.length_map, ← HN.out, ← HZ.out, hq]
      exact ⟨R, cp, q, e.symm, rfl, h3, HB⟩
end Go.Proofs.YthdpojkeceoiiaaGreatDoor
end
