/- Package atom: Parse. Conditions: texts and lists that fit. -/
import Derived.Test.YtkjcnpckajpogaaDoorKg
open Go.RowKit
set_option maxRecDepth 100000
namespace Go.Proofs.YtkjcnpckajpogaaDoor
def eB : ByteArray := ⟨#[]⟩
/-- An atom, the words that it takes, and whether there is one. -/
structure PA where
  p : ByteArray
  n : ByteArray
  k : Nat
  t : Nat
  ok : Bool
def noPA : PA := ⟨eB, eB, 0, 0, false⟩
def parseU (names ps : List ByteArray) (k t : Nat) (u : ByteArray) : PA := if (sizeP names ps u).2 then ⟨u.extract 0 (sizeP names ps u).1, restB u (sizeP names ps u).1, k, t + 1, true⟩ else noPA
def parseA (names ps l : List ByteArray) : PA :=
  match l[(leadP l).2]? with
  | none => noPA
  | some u => parseU names ps (leadP l).1 (leadP l).2 u
theorem leadP_le (l : List ByteArray) : (leadP l).2 ≤ l.length ∧ (leadP l).2 ≤ 1 := by
  cases l with
  | nil => exact ⟨Nat.le_refl _, by decide⟩
  | cons s l =>
    by_cases h : powOf s = 0
    · have e : leadP (s :: l) = (1, 0) := if_pos h
      rw [e]; simp
    · have e : leadP (s :: l) = (powOf s, 1) := if_neg h
      rw [e]; simp
theorem sizeP_le (names ps : List ByteArray) (u : ByteArray) : (sizeP names ps u).1 ≤ u.size := by
  unfold sizeP
  split
  · simp
  · have := lpB_le (names := names) (u := u) ps ps.length (Nat.le_refl _)
    rwa [List.take_length] at this
def PRes (W : World) (a : PA) (e : Ending) (w' : World) : Prop := e = .returned (.tuple #[.agg #[.string a.p, .string a.n, .int .i64 (a.k : Int)], .int .i64 (a.t : Int), .bool a.ok]) ∧ Bel W w'
theorem kbelow3 {W w2 : World} {p : Nat} (h : Bel W w2) (hp : W.heap.size ≤ p) (x y z : Value) : Bel W (((w2.setCell ⟨p, 0, none⟩ x).setCell ⟨p, 1, none⟩ y).setCell ⟨p, 2, none⟩ z) :=
  ((Below.setCell h hp _).setCell hp _).setCell hp _
set_option maxHeartbeats 4000000 in
theorem parse_any {A B D : Option Addr} {n c m d j g : Nat} {names ps l : List ByteArray} {w : World} (h : Ss w A names) (hn : n = names.length) (hl : n ≤ 1000000) (h' : Ss w B ps) (hm : m = ps.length) (hl' : m ≤ 1000000) (h2 : Ss w D l) (hj : j = l.length) (hu : ∀ x ∈ l, x.size ≤ 140737488355328) :
    Calls Tryd.prog 8 #[.agg #[.slice A n c, .slice B m d], .slice D j g] w (PRes w (parseA names ps l)) := by
  obtain ⟨pw, hpw⟩ : ∃ x, (leadP l).1 = x := ⟨_, rfl⟩
  obtain ⟨tk, htk⟩ : ∃ x, (leadP l).2 = x := ⟨_, rfl⟩
  have CL : Hid (∀ W, Bel w W → Calls Tryd.prog 19 #[.slice D j g] W (RetII W (pw : Int) (tk : Int))) := fun W hb => by rw [← hpw, ← htk]; exact lead_any (h2.up hb.hid) hj
  have hle := leadP_le l
  rw [htk] at hle
  have HV : Hid (parseA names ps l = match l[tk]? with | none => noPA | some u => parseU names ps pw tk u) := by unfold Hid parseA; rw [hpw, htk]
  obtain ⟨W1, hW1⟩ : ∃ X, X = (w.alloc (.cells #[.slice A n c, .slice B m d] 29)).alloc (.cells #[.string ⟨#[]⟩, .string ⟨#[]⟩, .int .i64 0] 24) := ⟨_, rfl⟩
  have HA : At W1 w.heap.size [.slice A n c, .slice B m d] := by rw [hW1]; exact (at_new0 _ _ _).al _
  have HR : At W1 (w.heap.size + 1) [.string ⟨#[]⟩, .string ⟨#[]⟩, .int .i64 0] := by rw [hW1]; exact at_new1 _ _ _ _
  have HB : Bel w W1 := by rw [hW1]; exact ((Bel.refl w).al _).al _
  have HW := khide hW1
  have HN := khide hn
  have HM := khide hm
  have HJ := khide hj
  clear hW1 hpw htk hn hm
  go_enter Tryd.func8, Tryd.ntmps8
  go_upto_region 1 with fail
  rw [← HW.out]
  obtain ⟨p, hp⟩ : ∃ p, p = w.heap.size := ⟨_, rfl⟩
  obtain ⟨q, hq⟩ : ∃ p, p = w.heap.size + 1 := ⟨_, rfl⟩
  have HQ : Hid (w.heap.size ≤ q) := by unfold Hid; omega
  rw [← hp] at HA
  rw [← hq] at HR
  rw [← hq, ← hp]
  clear HW hp hq
  by_cases he : tk = j
  · have d1 : ((tk : Int) == (j : Int)) = true := by rw [beq_iff_eq]; omega
    have HV2 : Hid (parseA names ps l = noPA) := by unfold Hid; rw [HV.out, List.getElem?_eq_none (by omega)]
    have HE := khide he
    clear he hle hu HV hj
    go_upto_region 2 with (first | (go_at_call 19; (with_reducible refine (CL.out _ HB).mono ?_); rintro e w1 ⟨rfl, hb⟩; (replace HA := HA.up hb.hid); (replace HR := HR.up hb.hid); (replace HB := HB.up hb.hid); clear hb) | fail)
    have hr_0 := HR.c0; have hr_1 := HR.c1; have hr_2 := HR.c2; have hr_l := HR.lt; have hr_f0 := HR.f0; have hr_f1 := HR.f1; have hr_f2 := HR.f2
    go_wp2_with fail
    refine bodyPost_ret (v := .tuple #[.agg #[.string ⟨#[]⟩, .string ⟨#[]⟩, .int .i64 0], .int .i64 0, .bool false]) (by simp [results, Tryd.results8, go_sem, hr_0, hr_1, hr_2]) rfl ⟨?_, ?_⟩
    · rw [HV2.out]; rfl
    · exact kbelow3 HB HQ.out _ _ _
  · have d1 : ((tk : Int) == (j : Int)) = false := by rw [beq_eq_false_iff_ne]; omega
    have hk : tk < l.length := by omega
    obtain ⟨u, hu2⟩ : ∃ u, u = l[tk] := ⟨_, rfl⟩
    have huz : Hid (u.size ≤ 140737488355328) := hu u (by rw [hu2]; exact List.getElem_mem hk)
    obtain ⟨sz, hsz⟩ : ∃ x, (sizeP names ps u).1 = x := ⟨_, rfl⟩
    obtain ⟨ok, hok⟩ : ∃ x, (sizeP names ps u).2 = x := ⟨_, rfl⟩
    have CP : Hid (∀ W, Bel w W → Calls Tryd.prog 20 #[.agg #[.slice A n c, .slice B m d], .string u] W (RetIB W (sz : Int) ok)) := fun W hb => by rw [← hsz, ← hok]; exact prefixSize_any (h.up hb.hid) HN.out hl (h'.up hb.hid) HM.out hl' huz.out
    have hle2 : sz ≤ u.size := by rw [← hsz]; exact sizeP_le names ps u
    have HV2 : Hid (parseA names ps l = if ok then ⟨u.extract 0 sz, restB u sz, pw, tk + 1, true⟩ else noPA) := by
      unfold Hid
      rw [HV.out, List.getElem?_eq_getElem hk, ← hu2]
      show parseU names ps pw tk u = _
      unfold parseU; rw [hsz, hok]
    obtain ⟨ad, rfl, had, hcell⟩ := h2.out.at_ hk
    rw [← hu2] at hcell
    have t1 : (tk : Int) < (j : Int) := by omega
    have t2 : (0 : Int) ≤ (tk : Int) := by omega
    have HT1 : Hid (tk ≤ 1) := hle.2
    have s1 : (sz : Int) ≤ (u.size : Int) := by omega
    have s2 : (0 : Int) ≤ (sz : Int) := by omega
    have hC : Hid (∀ W', Bel w W' → W'.cell? (ad.add tk) = some (.string u)) := fun W' hb => (hb.cell (by rw [yblock_add]; exact had)).trans hcell
    clear hcell had hu2 hu hle HV hj he hk hsz hok
    go_upto_region 4 with (first | (go_at_call 19; (with_reducible refine (CL.out _ HB).mono ?_); rintro e w1 ⟨rfl, hb⟩; (replace HA := HA.up hb.hid); (replace HR := HR.up hb.hid); (replace HB := HB.up hb.hid); clear hb) | fail)
    have hcell := hC.out _ HB
    have ha_0 := HA.c0; have ha_1 := HA.c1; have ha_l := HA.lt
    cases ok with
    | false =>
      go_upto_region 7 with (first | (go_at_call 20; (with_reducible refine (CP.out _ HB).mono ?_); rintro e w2 ⟨rfl, hb⟩; (replace HA := HA.up hb.hid); (replace HR := HR.up hb.hid); (replace HB := HB.up hb.hid); clear hb hcell ha_0 ha_1 ha_l) | fail)
      have hr_0 := HR.c0; have hr_1 := HR.c1; have hr_2 := HR.c2; have hr_l := HR.lt; have hr_f0 := HR.f0; have hr_f1 := HR.f1; have hr_f2 := HR.f2
      go_wp2_with fail
      refine bodyPost_ret (v := .tuple #[.agg #[.string ⟨#[]⟩, .string ⟨#[]⟩, .int .i64 0], .int .i64 0, .bool false]) (by simp [results, Tryd.results8, go_sem, hr_0, hr_1, hr_2]) rfl ⟨?_, kbelow3 HB HQ.out _ _ _⟩
      rw [HV2.out]; rfl
    | true =>
      go_upto_region 8 with (first | (go_at_call 20; (with_reducible refine (CP.out _ HB).mono ?_); rintro e w2 ⟨rfl, hb⟩; (replace HA := HA.up hb.hid); (replace HR := HR.up hb.hid); (replace HB := HB.up hb.hid); clear hb hcell ha_0 ha_1 ha_l) | fail)
      have hr_0 := HR.c0; have hr_1 := HR.c1; have hr_2 := HR.c2; have hr_l := HR.lt; have hr_f0 := HR.f0; have hr_f1 := HR.f1; have hr_f2 := HR.f2
      go_region
      all_goals go_wp2_with fail
      have e9 : wrap64 ((tk : Int) + 1) = (tk : Int) + 1 := by have := HT1.out; unfold wrap64; omega
      all_goals refine bodyPost_ret (v := .tuple #[.agg #[.string (u.extract 0 sz), .string (u.extract sz u.size), .int .i64 (pw : Int)], .int .i64 ((tk : Int) + 1), .bool true]) (by simp [results, Tryd.results8, go_sem, hr_0, hr_1, hr_2, e9]) rfl ⟨?_, (kbelow3 HB HQ.out _ _ _).dr⟩
      all_goals (rw [HV2.out]; rfl)
end Go.Proofs.YtkjcnpckajpogaaDoor
