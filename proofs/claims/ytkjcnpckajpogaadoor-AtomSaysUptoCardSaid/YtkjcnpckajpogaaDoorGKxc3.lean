/- Several texts in one, each with its own sentence and conditions. -/
import Derived.Test.YtkjcnpckajpogaaDoorGKxc0
import Derived.Test.YtkjcnpckajpogaaDoorGKxc1
import Derived.Test.YtkjcnpckajpogaaDoorGKxc2
import Derived.Laws.StructEq
section
/- Words: Join. Conditions: a text that fits. -/
open Go.RowKit
set_option maxRecDepth 100000
namespace Go.Proofs.YtkjcnpckajpogaaDoor
/-- The words put together with a hyphen between them. -/
def joinS (xs : List ByteArray) : ByteArray := ⟨(glue 45 (xs.map (·.data.toList))).toArray⟩
def StrR (W : World) (s : ByteArray) (e : Ending) (w' : World) : Prop := e = .returned (.string s) ∧ Hid (Below W.heap.size W w')
theorem plain_of {w : World} {ad : Addr} {v : Value} (h : w.cell? ad = some v) : ∃ b o, ad = ⟨b, o, none⟩ := by
  obtain ⟨b, o, sp⟩ := ad
  cases sp with
  | none => exact ⟨b, o, rfl⟩
  | some k =>
    unfold World.cell? at h
    split at h
    · simp at h
    · cases h
theorem sjoin_any {w : World} {A : Option Addr} {n c : Nat} {xs : List ByteArray} (h : Ss w A xs) (hn : n = xs.length) (hc : n ≤ c) (hN : n ≤ 1000000) (hl : (glue 45 (xs.map (·.data.toList))).length ≤ 140737488355328) :
    Calls Tryd.prog 35 #[.slice A n c, .string ⟨#[45]⟩] w (StrR w (joinS xs)) := by
  subst hn
  cases xs with
  | nil =>
    refine (Tryd.strings_Join_none A c ⟨#[45]⟩ w).mono fun e w' ⟨he, hw⟩ => ⟨by rw [he]; rfl, by rw [hw]; exact Below.refl _ _⟩
  | cons x xs =>
    obtain ⟨ad, rfl, hb, hcell⟩ := h.out (by simp)
    have h0 := hcell 0 x rfl
    obtain ⟨b, o, hbo⟩ := plain_of h0
    rw [show ad.add 0 = ad by simp [Addr.add]] at hbo
    subst hbo
    have hcl : ∀ (j : Nat) y, (x :: xs)[j]? = some y → w.cell? ⟨b, o + j, none⟩ = some (.string y) := fun j y hj => by
      have h1 := hcell j y hj
      have e : (⟨b, o, none⟩ : Addr).add j = ⟨b, o + j, none⟩ := by unfold Addr.add; split <;> simp_all
      rwa [e] at h1
    have c1 := Tryd.strings_Join b o c (x :: xs) ⟨#[45]⟩ w hcl hb (by omega) hc (by rw [show (⟨#[45]⟩ : ByteArray).data.toList = [45] from rfl, join_glue]; exact hl)
    refine c1.mono fun e w' ⟨he, hw⟩ => ⟨?_, hw⟩
    rw [he, show (⟨#[45]⟩ : ByteArray).data.toList = [45] from rfl, join_glue]; rfl
theorem wjoin_any {w : World} {A : Option Addr} {n c : Nat} {xs : List ByteArray} (h : Ss w A xs) (hn : n = xs.length) (hc : n ≤ c) (hN : n ≤ 1000000) (hl : (glue 45 (xs.map (·.data.toList))).length ≤ 140737488355328) :
    Calls Tryd.prog 22 #[.slice A n c] w (StrR w (joinS xs)) := by
  have CJ := yhide (sjoin_any h hn hc hN hl)
  clear h hn hc hN hl
  obtain ⟨t, ht⟩ : ∃ t, t = joinS xs := ⟨_, rfl⟩
  rw [← ht] at CJ ⊢
  clear ht
  go_enter Tryd.func22, Tryd.ntmps22
  go_wp2_with (first | (go_at_call 35; (with_reducible refine CJ.out.mono ?_); rintro e w1 ⟨rfl, hbk⟩) | fail)
  go_ret
  exact ⟨rfl, hbk⟩
end Go.Proofs.YtkjcnpckajpogaaDoor
end

section
/- Package atom: Show. Conditions: texts that fit. -/
open Go.RowKit
set_option maxRecDepth 100000
namespace Go.Proofs.YtkjcnpckajpogaaDoor
def showB (p n : ByteArray) (k : Int) : ByteArray := if k < 1 ∨ 15 < k then eB else if k = 1 then p ++ n else joinS [pwB k.toNat, p ++ n]
theorem lit_ssk (W : World) (xs : List ByteArray) (t : TypeId) : Ss (W.alloc (.cells (xs.map Value.string).toArray t)) (some ⟨W.heap.size, 0, none⟩) xs := fun _ =>
  ⟨⟨W.heap.size, 0, none⟩, rfl, (at_new0 W (xs.map Value.string) t).lt, fun j x hj => by
    rw [show (⟨W.heap.size, 0, none⟩ : Addr).add j = ⟨W.heap.size, j, none⟩ by unfold Addr.add; split <;> simp_all]
    exact (at_new0 W (xs.map Value.string) t).ci (by rw [List.getElem?_map, hj]; rfl)⟩
theorem glue_two (a b : ByteArray) : (glue 45 ([a, b].map (·.data.toList))).length = a.size + b.size + 1 := by
  simp only [List.map_cons, List.map_nil, glue, List.length_append, List.length_cons, Lib.size_eq]; omega
set_option maxHeartbeats 4000000 in
theorem show_any {p n : ByteArray} {k : Int} (hs : p.size + n.size ≤ 140737488355000) (w : World) : Calls Tryd.prog 11 #[.agg #[.string p, .string n, .int .i64 k]] w (StrR w (showB p n k)) := by
  have hs1 : ¬ 9223372036854775807 < p.size + n.size := by omega
  have hs2 : p.size + n.size ≤ 9223372036854775807 := by omega
  obtain ⟨u, hu⟩ : ∃ u, u = p ++ n := ⟨_, rfl⟩
  have huz : u.size = p.size + n.size := by rw [hu, ByteArray.size_append]
  obtain ⟨W1, hW1⟩ : ∃ X, X = w.alloc (.cells #[.string p, .string n, .int .i64 k] 24) := ⟨_, rfl⟩
  have HA : At W1 w.heap.size [.string p, .string n, .int .i64 k] := by rw [hW1]; exact at_new0 _ _ _
  have HB : Bel w W1 := by rw [hW1]; exact (Bel.refl w).al _
  have HW := khide hW1
  have ha_0 := HA.c0; have ha_1 := HA.c1; have ha_2 := HA.c2; have ha_l := HA.lt
  by_cases h1 : k < 1
  · have d1 : decide (k < 1) = true := decide_eq_true h1
    have HV : Hid (showB p n k = eB) := if_pos (.inl h1)
    clear h1 hW1 hu huz
    go_enter Tryd.func11, Tryd.ntmps11
    go_upto_region 1 with fail
    rw [← HW.out]
    go_wp2
    go_ret
    exact ⟨by rw [HV.out]; rfl, HB⟩
  by_cases h2 : 15 < k
  · have d1 : decide (k < 1) = false := decide_eq_false h1
    have d2 : decide (15 < k) = true := decide_eq_true h2
    have HV : Hid (showB p n k = eB) := if_pos (.inr h2)
    clear h1 h2 hW1 hu huz
    go_enter Tryd.func11, Tryd.ntmps11
    go_upto_region 1 with fail
    rw [← HW.out]
    go_wp2
    go_ret
    exact ⟨by rw [HV.out]; rfl, HB⟩
  have d1 : decide (k < 1) = false := decide_eq_false h1
  have d2 : decide (15 < k) = false := decide_eq_false h2
  by_cases h3 : k = 1
  · have d3 : (k == 1) = true := by rw [h3]; rfl
    have HV : Hid (showB p n k = p ++ n) := by unfold Hid showB; rw [if_neg (by omega), if_pos h3]
    clear h1 h2 h3 hW1 hu huz
    go_enter Tryd.func11, Tryd.ntmps11
    go_upto_region 1 with fail
    rw [← HW.out]
    go_wp2
    go_ret
    exact ⟨by rw [HV.out]; rfl, HB⟩
  · obtain ⟨j, rfl⟩ : ∃ j : Nat, k = (j : Int) := ⟨k.toNat, by omega⟩
    have d3 : ((j : Int) == 1) = false := beq_eq_false_iff_ne.2 h3
    have hj2 : 2 ≤ j := by omega
    have hj16 : j < 16 := by omega
    obtain ⟨t, ht⟩ : ∃ t, pwB j = t := ⟨_, rfl⟩
    have CW : Hid (∀ W : World, Calls Tryd.prog 23 #[.int .i64 (j : Int)] W fun e w' => e = .returned (.string t) ∧ W = w') := fun W => ht ▸ powerWord_any hj2 hj16 W
    have htz : t.size ≤ 6 := by rw [← ht]; exact pwB_size j hj16 hj2
    have HV : Hid (showB p n (j : Int) = joinS [t, u]) := by
      unfold Hid showB
      rw [if_neg (by omega), if_neg h3, Int.toNat_natCast, ht, hu]
    have CJ : Hid (∀ W : World, Calls Tryd.prog 22 #[.slice (some ⟨W.heap.size, 0, none⟩) 2 2] (W.alloc (.cells #[.string t, .string u] 9)) (StrR (W.alloc (.cells #[.string t, .string u] 9)) (joinS [t, u]))) := fun W =>
      wjoin_any (lit_ssk W [t, u] 9) rfl (by omega) (by omega) (by rw [glue_two]; omega)
    have huv := khide hu
    clear h1 h2 h3 hW1 ht huz hj2 hj16 htz
    go_enter Tryd.func11, Tryd.ntmps11
    go_upto_region 1 with fail
    rw [← HW.out]
    go_upto_region 4 with fail
    rw [← hu]
    clear hu
    go_wp2_with (first | (go_at_call 23; (with_reducible refine (CW.out _).mono ?_); rintro e w1 ⟨rfl, rfl⟩) | (go_at_call 22; (with_reducible refine (CJ.out _).mono ?_); rintro e w2 ⟨rfl, hb⟩) | fail)
    go_ret
    exact ⟨by rw [HV.out]; rfl, (HB.al _).up hb⟩
end Go.Proofs.YtkjcnpckajpogaaDoor
end

section
/- '==' on atoms. No conditions. -/
open Go.RowKit
set_option maxRecDepth 100000
namespace Go.Proofs.YtkjcnpckajpogaaDoor
def atV (p n : ByteArray) (k : Int) : Value := .agg #[.string p, .string n, .int .i64 k]
def eqA (p n : ByteArray) (k : Int) (p' n' : ByteArray) (k' : Int) : Bool := decide (p = p' ∧ n = n' ∧ k = k')
theorem beq_dec (a b : ByteArray) : (a.toList == b.toList) = decide (a = b) := by
  by_cases h : a = b
  · subst h; simp
  · rw [str_ne h, decide_eq_false h]
theorem eqA_beq (p n : ByteArray) (k : Int) (p' n' : ByteArray) (k' : Int) : eqA p n k p' n' k' = ((p.toList == p'.toList) && ((n.toList == n'.toList) && (k == k'))) := by
  unfold eqA
  rw [beq_dec, beq_dec, Bool.eq_iff_iff]; simp
theorem aeq_in (w : World) (p n : ByteArray) (k : Int) (p' n' : ByteArray) (k' : Int) : (Op.equalIn 10000 24 (.agg #[.string p, .string n, .int .i64 k]) (.agg #[.string p', .string n', .int .i64 k'])).run Tryd.prog w = .ok (eqA p n k p' n' k') w := by
  rw [eqA_beq, run_equalIn_agg w 9999 _ _ _ (by kernel_rfl) (by kernel_rfl)]
  have hf : (Tryd.prog.fieldsOf 24).toList.map (fun f => (f.name, f.type, f.offset)) = [("Prefix", 9, 0), ("Name", 9, 1), ("Power", 3, 2)] := by kernel_rfl
  obtain ⟨fs, hfs⟩ : ∃ fs, (Tryd.prog.fieldsOf 24).toList = fs := ⟨_, rfl⟩
  rw [hfs] at hf ⊢
  match fs, hf with
  | [f0, f1, f2], hf =>
    simp at hf
    obtain ⟨⟨a0, b0, c0⟩, ⟨a1, b1, c1⟩, a2, b2, c2⟩ := hf
    simp [Op.eqFields, a0, a1, a2, b0, b1, b2, c0, c1, c2, part, isAgg, run_underlying Tryd.underlying9, run_underlying Tryd.underlying3, run_equalIn_string _ _ _ _ _ Tryd.underlying9, run_equalIn_int _ _ _ _ _ _ _ Tryd.underlying3, Result.andThen]
    by_cases h1 : p.toList = p'.toList <;> by_cases h2 : n.toList = n'.toList <;> by_cases h3 : k = k' <;> simp [h1, h2, h3]
theorem aeq (w : World) (p n : ByteArray) (k : Int) (p' n' : ByteArray) (k' : Int) : (binOp .eql 24 (.agg #[.string p, .string n, .int .i64 k]) (.agg #[.string p', .string n', .int .i64 k'])).run Tryd.prog w = .ok (.bool (eqA p n k p' n' k')) w := by
  rw [run_eql_struct, aeq_in]; rfl
theorem aneq (w : World) (p n : ByteArray) (k : Int) (p' n' : ByteArray) (k' : Int) : (binOp .neq 24 (.agg #[.string p, .string n, .int .i64 k]) (.agg #[.string p', .string n', .int .i64 k'])).run Tryd.prog w = .ok (.bool (!(eqA p n k p' n' k'))) w := by
  rw [run_neq_struct, aeq_in]; rfl
theorem req_in (w : World) (p n : ByteArray) (k : Int) (p' n' : ByteArray) (k' : Int) : (Op.equalIn 10000 35 (.agg #[.string p, .string n, .int .i64 k]) (.agg #[.string p', .string n', .int .i64 k'])).run Tryd.prog w = .ok (eqA p n k p' n' k') w := by
  rw [eqA_beq, run_equalIn_agg w 9999 _ _ _ (by kernel_rfl) (by kernel_rfl)]
  have hf : (Tryd.prog.fieldsOf 35).toList.map (fun f => (f.name, f.type, f.offset)) = [("Prefix", 9, 0), ("Name", 9, 1), ("Power", 3, 2)] := by kernel_rfl
  obtain ⟨fs, hfs⟩ : ∃ fs, (Tryd.prog.fieldsOf 35).toList = fs := ⟨_, rfl⟩
  rw [hfs] at hf ⊢
  match fs, hf with
  | [f0, f1, f2], hf =>
    simp at hf
    obtain ⟨⟨a0, b0, c0⟩, ⟨a1, b1, c1⟩, a2, b2, c2⟩ := hf
    simp [Op.eqFields, a0, a1, a2, b0, b1, b2, c0, c1, c2, part, isAgg, run_underlying Tryd.underlying9, run_underlying Tryd.underlying3, run_equalIn_string _ _ _ _ _ Tryd.underlying9, run_equalIn_int _ _ _ _ _ _ _ Tryd.underlying3, Result.andThen]
    by_cases h1 : p.toList = p'.toList <;> by_cases h2 : n.toList = n'.toList <;> by_cases h3 : k = k' <;> simp [h1, h2, h3]
theorem req (w : World) (p n : ByteArray) (k : Int) (p' n' : ByteArray) (k' : Int) : (binOp .eql 35 (.agg #[.string p, .string n, .int .i64 k]) (.agg #[.string p', .string n', .int .i64 k'])).run Tryd.prog w = .ok (.bool (eqA p n k p' n' k')) w := by
  rw [run_eql_struct, req_in]; rfl
theorem rneq (w : World) (p n : ByteArray) (k : Int) (p' n' : ByteArray) (k' : Int) : (binOp .neq 35 (.agg #[.string p, .string n, .int .i64 k]) (.agg #[.string p', .string n', .int .i64 k'])).run Tryd.prog w = .ok (.bool (!(eqA p n k p' n' k'))) w := by
  rw [run_neq_struct, req_in]; rfl
end Go.Proofs.YtkjcnpckajpogaaDoor
end

section
/- The law's own some and awake. No conditions. -/
open Go.RowKit
set_option maxRecDepth 100000
namespace Go.Proofs.YtkjcnpckajpogaaDoor
def meB : ByteArray := ⟨#[109, 101, 116, 101, 114]⟩
def kiloB : ByteArray := ⟨#[107, 105, 108, 111]⟩
def someN : List ByteArray := [meB, ⟨#[103, 114, 97, 109]⟩, ⟨#[108, 111, 103, 114, 97, 109]⟩]
def someP : List ByteArray := [⟨#[107, 105]⟩, kiloB, ⟨#[109, 105, 108, 108, 105]⟩]
def SomeR (W : World) (e : Ending) (w' : World) : Prop := ∃ A B, e = .returned (.agg #[.slice A 3 3, .slice B 3 3]) ∧ Ss w' A someN ∧ Ss w' B someP ∧ Bel W w'
theorem ss_at {W : World} {q : Nat} {xs : List ByteArray} (h : At W q (xs.map Value.string)) : Ss W (some ⟨q, 0, none⟩) xs := fun _ =>
  ⟨⟨q, 0, none⟩, rfl, h.lt, fun j x hj => by
    rw [show (⟨q, 0, none⟩ : Addr).add j = ⟨q, j, none⟩ by unfold Addr.add; split <;> simp_all]
    exact h.ci (by rw [List.getElem?_map, hj]; rfl)⟩
theorem some_h (w : World) : Calls Tryd.prog 9 #[] w (SomeR w) := by
  obtain ⟨W1, hW1⟩ : ∃ X, X = w.alloc (.cells #[.slice none 0 0, .slice none 0 0] 29) := ⟨_, rfl⟩
  have HA : At W1 w.heap.size [.slice none 0 0, .slice none 0 0] := by rw [hW1]; exact at_new0 _ _ _
  have HB : Bel w W1 := by rw [hW1]; exact (Bel.refl w).al _
  have HW := khide hW1
  clear hW1
  go_enter Tryd.func9, Tryd.ntmps9
  go_upto_region 1 with fail
  rw [← HW.out]
  obtain ⟨q, hq⟩ : ∃ p, p = w.heap.size := ⟨_, rfl⟩
  have HQ : Hid (w.heap.size ≤ q) := by unfold Hid; omega
  rw [← hq] at HA ⊢
  clear HW hq
  have hr_0 := HA.c0; have hr_1 := HA.c1; have hr_l := HA.lt; have hr_f0 := HA.f0; have hr_f1 := HA.f1
  go_wp2_with fail
  refine bodyPost_ret (v := .agg #[.slice (some ⟨W1.heap.size, 0, none⟩) 3 3, .slice (some ⟨W1.heap.size + 1, 0, none⟩) 3 3]) (by simp [results, Tryd.results9, go_sem, hr_0, hr_1, hr_l]) rfl ⟨_, _, rfl, ?_, ?_, ?_⟩
  · exact ss_at ((at_size (at_new0 _ (someN.map Value.string) 9) (by simp [World.setCell])).al _)
  · exact ss_at (at_size (at_new0 _ (someP.map Value.string) 9) (by simp [World.setCell]))
  · exact ((Below.setCell (Below.setCell HB HQ.out _) HQ.out _).alloc (by have := HB.size; simpa [World.setCell] using this) _).alloc (by have := HB.size; simp [World.setCell]; omega) _
def PResX (W : World) (p n : ByteArray) (k t : Int) (ok : Bool) (e : Ending) (w' : World) : Prop := e = .returned (.tuple #[.agg #[.string p, .string n, .int .i64 k], .int .i64 t, .bool ok]) ∧ Bel W w'
theorem parse_some {A B D : Option Addr} {j g : Nat} {xs : List ByteArray} {W : World} {p n : ByteArray} {k t : Nat} {ok : Bool} (h : Ss W A someN) (h' : Ss W B someP) (h2 : Ss W D xs) (hj : j = xs.length) (hu : ∀ x ∈ xs, x.size ≤ 140737488355328)
    (ha : (parseA someN someP xs).p = p ∧ (parseA someN someP xs).n = n ∧ (parseA someN someP xs).k = k ∧ (parseA someN someP xs).t = t ∧ (parseA someN someP xs).ok = ok) :
    Calls Tryd.prog 8 #[.agg #[.slice A 3 3, .slice B 3 3], .slice D j g] W (PResX W p n (k : Int) (t : Int) ok) := by
  obtain ⟨h1, h3, h4, h5, h6⟩ := ha
  rw [← h1, ← h3, ← h4, ← h5, ← h6]
  exact parse_any h rfl (by decide) h' rfl (by decide) h2 hj hu
theorem some_sizes : (∀ x ∈ someN, x.size ≤ 2000000) ∧ ∀ x ∈ someP, x.size ≤ 2000000 := by decide +kernel
theorem good_some {A B : Option Addr} {W : World} (h : Ss W A someN) (h' : Ss W B someP) : Calls Tryd.prog 10 #[.agg #[.slice A 3 3, .slice B 3 3]] W (RetB W true) := by
  have h3 := good_any (c := 3) (d := 3) (w := W) h (n := 3) rfl (by decide) some_sizes.1 h' (m := 3) rfl (by decide) some_sizes.2
  rwa [show (goodL someN && goodL someP) = true by decide +kernel] at h3
theorem show_lit {p n s : ByteArray} {k : Int} (hs : p.size + n.size ≤ 140737488355000) (h : showB p n k = s) (w : World) : Calls Tryd.prog 11 #[.agg #[.string p, .string n, .int .i64 k]] w (StrR w s) := h ▸ show_any hs w
theorem awake9_h (w : World) : Calls Tryd.prog 7 #[] w (RetB w true) := by
  have CS := khide some_h
  have CP : Hid (∀ {A B : Option Addr} {W : World}, Ss W A someN → Ss W B someP → Calls Tryd.prog 8 #[.agg #[.slice A 3 3, .slice B 3 3], .slice (some ⟨W.heap.size, 0, none⟩) 3 3] (W.alloc (.cells #[.string ⟨#[115, 113, 117, 97, 114, 101]⟩, .string ⟨#[107, 105, 108, 111, 109, 101, 116, 101, 114]⟩, .string ⟨#[112, 101, 114]⟩] 9)) (PResX (W.alloc (.cells #[.string ⟨#[115, 113, 117, 97, 114, 101]⟩, .string ⟨#[107, 105, 108, 111, 109, 101, 116, 101, 114]⟩, .string ⟨#[112, 101, 114]⟩] 9)) ⟨#[107, 105, 108, 111]⟩ ⟨#[109, 101, 116, 101, 114]⟩ 2 2 true)) := fun h h' =>
    parse_some (xs := [⟨#[115, 113, 117, 97, 114, 101]⟩, ⟨#[107, 105, 108, 111, 109, 101, 116, 101, 114]⟩, ⟨#[112, 101, 114]⟩]) (k := 2) (t := 2) (h.al _) (h'.al _) (lit_ssk _ [⟨#[115, 113, 117, 97, 114, 101]⟩, ⟨#[107, 105, 108, 111, 109, 101, 116, 101, 114]⟩, ⟨#[112, 101, 114]⟩] _) rfl (by decide +kernel) (by decide +kernel)
  have CH : Hid (∀ W : World, Calls Tryd.prog 11 #[.agg #[.string ⟨#[107, 105, 108, 111]⟩, .string ⟨#[109, 101, 116, 101, 114]⟩, .int .i64 2]] W (StrR W ⟨#[115, 113, 117, 97, 114, 101, 45, 107, 105, 108, 111, 109, 101, 116, 101, 114]⟩)) := fun W => show_lit (by decide +kernel) (by decide +kernel) W
  have CG : Hid (∀ {A B : Option Addr} {W : World}, Ss W A someN → Ss W B someP → Calls Tryd.prog 10 #[.agg #[.slice A 3 3, .slice B 3 3]] W (RetB W true)) := fun h h' => good_some h h'
  have q1 : ∀ W : World, (binOp .eql 24 (.agg #[.string ⟨#[107, 105, 108, 111]⟩, .string ⟨#[109, 101, 116, 101, 114]⟩, .int .i64 2]) (.agg #[.string ⟨#[107, 105, 108, 111]⟩, .string ⟨#[109, 101, 116, 101, 114]⟩, .int .i64 2])).run Tryd.prog W = .ok (.bool true) W := fun W => by
    rw [aeq W]; rw [show eqA ⟨#[107, 105, 108, 111]⟩ ⟨#[109, 101, 116, 101, 114]⟩ 2 ⟨#[107, 105, 108, 111]⟩ ⟨#[109, 101, 116, 101, 114]⟩ 2 = true by decide +kernel]
  have HB := Bel.refl w
  go_enter Tryd.func7, Tryd.ntmps7
  go_wp2_with (first
    | (go_at_call 9; (with_reducible refine (CS.out _).mono ?_); rintro e w1 ⟨A, B, rfl, hN, hP, hb⟩; (replace HB := HB.up hb.hid); clear hb)
    | (go_at_call 8; (with_reducible refine (CP.out hN hP).mono ?_); rintro e w2 ⟨rfl, hb⟩; (replace HB := (HB.al _).up hb.hid); clear hb hN hP)
    | (go_at_call 11; (with_reducible refine (CH.out _).mono ?_); rintro e w3 ⟨rfl, hb⟩; (replace HB := (HB.al _).up hb); clear hb)
    | (go_at_call 10; (with_reducible refine (CG.out hN hP).mono ?_); rintro e w4 ⟨rfl, hb⟩; (replace HB := HB.up hb.hid); clear hb)
    | fail)
  go_ret
  exact ⟨rfl, HB⟩
end Go.Proofs.YtkjcnpckajpogaaDoor
end
