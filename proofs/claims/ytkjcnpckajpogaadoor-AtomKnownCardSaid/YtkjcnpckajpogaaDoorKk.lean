/- The law's own some and awake. No conditions. -/
import Derived.Test.YtkjcnpckajpogaaDoorKj
open Go.RowKit
set_option maxRecDepth 100000
namespace Go.Proofs.YtkjcnpckajpogaaDoor
def meB : ByteArray := ⟨#[109, 101, 116, 101, 114]⟩
def kiloB : ByteArray := ⟨#[107, 105, 108, 111]⟩
def someN : List ByteArray := [meB, ⟨#[103, 114, 97, 109]⟩, ⟨#[108, 111, 103, 114, 97, 109]⟩]
def someP : List ByteArray := [⟨#[107, 105]⟩, kiloB, ⟨#[109, 105, 108, 108, 105]⟩]
def SomeR (W : World) (e : Ending) (w' : World) : Prop := ∃ A B, e = .returned (.agg #[.slice A 3 3, .slice B 3 3]) ∧ Ss w' A someN ∧ Ss w' B someP ∧ Bel W w'
theorem ss_at {W : World} {q : Nat} {xs : List ByteArray} (h : At W q (xs.map Value.string)) : Ss W (some ⟨q, 0, none⟩) xs := fun _ =>
  ⟨⟨q, 0, none⟩, rfl, h.lt, fun j x hj => by
    rw [show (⟨q, 0, none⟩ : Addr).add j = ⟨q, j, none⟩ by unfold Addr.add; split <;> simp_all]
    exact h.ci (by rw [List.getElem?_map, hj]; rfl)⟩
theorem some_h (w : World) : Calls Tryd.prog 9 #[] w (SomeR w) := by
  obtain ⟨W1, hW1⟩ : ∃ X, X = w.alloc (.cells #[.slice none 0 0, .slice none 0 0] 29) := ⟨_, rfl⟩
  have HA : At W1 w.heap.size [.slice none 0 0, .slice none 0 0] := by rw [hW1]; exact at_new0 _ _ _
  have HB : Bel w W1 := by rw [hW1]; exact (Bel.refl w).al _
  have HW := khide hW1
  clear hW1
  go_enter Tryd.func9, Tryd.ntmps9
  go_upto_region 1 with fail
  rw [← HW.out]
  obtain ⟨q, hq⟩ : ∃ p, p = w.heap.size := ⟨_, rfl⟩
  have HQ : Hid (w.heap.size ≤ q) := by unfold Hid; omega
  rw [← hq] at HA ⊢
  clear HW hq
  have hr_0 := HA.c0; have hr_1 := HA.c1; have hr_l := HA.lt; have hr_f0 := HA.f0; have hr_f1 := HA.f1
  go_wp2_with fail
  refine bodyPost_ret (v := .agg #[.slice (some ⟨W1.heap.size, 0, none⟩) 3 3, .slice (some ⟨W1.heap.size + 1, 0, none⟩) 3 3]) (by simp [results, Tryd.results9, go_sem, hr_0, hr_1, hr_l]) rfl ⟨_, _, rfl, ?_, ?_, ?_⟩
  · exact ss_at ((at_size (at_new0 _ (someN.map Value.string) 9) (by simp [World.setCell])).al _)
  · exact ss_at (at_size (at_new0 _ (someP.map Value.string) 9) (by simp [World.setCell]))
  · exact ((Below.setCell (Below.setCell HB HQ.out _) HQ.out _).alloc (by have := HB.size; simpa [World.setCell] using this) _).alloc (by have := HB.size; simp [World.setCell]; omega) _
def PResX (W : World) (p n : ByteArray) (k t : Int) (ok : Bool) (e : Ending) (w' : World) : Prop := e = .returned (.tuple #[.agg #[.string p, .string n, .int .i64 k], .int .i64 t, .bool ok]) ∧ Bel W w'
theorem parse_some {A B D : Option Addr} {j g : Nat} {xs : List ByteArray} {W : World} {p n : ByteArray} {k t : Nat} {ok : Bool} (h : Ss W A someN) (h' : Ss W B someP) (h2 : Ss W D xs) (hj : j = xs.length) (hu : ∀ x ∈ xs, x.size ≤ 140737488355328)
    (ha : (parseA someN someP xs).p = p ∧ (parseA someN someP xs).n = n ∧ (parseA someN someP xs).k = k ∧ (parseA someN someP xs).t = t ∧ (parseA someN someP xs).ok = ok) :
    Calls Tryd.prog 8 #[.agg #[.slice A 3 3, .slice B 3 3], .slice D j g] W (PResX W p n (k : Int) (t : Int) ok) := by
  obtain ⟨h1, h3, h4, h5, h6⟩ := ha
  rw [← h1, ← h3, ← h4, ← h5, ← h6]
  exact parse_any h rfl (by decide) h' rfl (by decide) h2 hj hu
theorem some_sizes : (∀ x ∈ someN, x.size ≤ 2000000) ∧ ∀ x ∈ someP, x.size ≤ 2000000 := by decide +kernel
theorem good_some {A B : Option Addr} {W : World} (h : Ss W A someN) (h' : Ss W B someP) : Calls Tryd.prog 10 #[.agg #[.slice A 3 3, .slice B 3 3]] W (RetB W true) := by
  have h3 := good_any (c := 3) (d := 3) (w := W) h (n := 3) rfl (by decide) some_sizes.1 h' (m := 3) rfl (by decide) some_sizes.2
  rwa [show (goodL someN && goodL someP) = true by decide +kernel] at h3
theorem show_lit {p n s : ByteArray} {k : Int} (hs : p.size + n.size ≤ 140737488355000) (h : showB p n k = s) (w : World) : Calls Tryd.prog 11 #[.agg #[.string p, .string n, .int .i64 k]] w (StrR w s) := h ▸ show_any hs w
theorem awake9_h (w : World) : Calls Tryd.prog 7 #[] w (RetB w true) := by
  have CS := khide some_h
  have CP : Hid (∀ {A B : Option Addr} {W : World}, Ss W A someN → Ss W B someP → Calls Tryd.prog 8 #[.agg #[.slice A 3 3, .slice B 3 3], .slice (some ⟨W.heap.size, 0, none⟩) 3 3] (W.alloc (.cells #[.string ⟨#[115, 113, 117, 97, 114, 101]⟩, .string ⟨#[107, 105, 108, 111, 109, 101, 116, 101, 114]⟩, .string ⟨#[112, 101, 114]⟩] 9)) (PResX (W.alloc (.cells #[.string ⟨#[115, 113, 117, 97, 114, 101]⟩, .string ⟨#[107, 105, 108, 111, 109, 101, 116, 101, 114]⟩, .string ⟨#[112, 101, 114]⟩] 9)) ⟨#[107, 105, 108, 111]⟩ ⟨#[109, 101, 116, 101, 114]⟩ 2 2 true)) := fun h h' =>
    parse_some (xs := [⟨#[115, 113, 117, 97, 114, 101]⟩, ⟨#[107, 105, 108, 111, 109, 101, 116, 101, 114]⟩, ⟨#[112, 101, 114]⟩]) (k := 2) (t := 2) (h.al _) (h'.al _) (lit_ssk _ [⟨#[115, 113, 117, 97, 114, 101]⟩, ⟨#[107, 105, 108, 111, 109, 101, 116, 101, 114]⟩, ⟨#[112, 101, 114]⟩] _) rfl (by decide +kernel) (by decide +kernel)
  have CH : Hid (∀ W : World, Calls Tryd.prog 11 #[.agg #[.string ⟨#[107, 105, 108, 111]⟩, .string ⟨#[109, 101, 116, 101, 114]⟩, .int .i64 2]] W (StrR W ⟨#[115, 113, 117, 97, 114, 101, 45, 107, 105, 108, 111, 109, 101, 116, 101, 114]⟩)) := fun W => show_lit (by decide +kernel) (by decide +kernel) W
  have CG : Hid (∀ {A B : Option Addr} {W : World}, Ss W A someN → Ss W B someP → Calls Tryd.prog 10 #[.agg #[.slice A 3 3, .slice B 3 3]] W (RetB W true)) := fun h h' => good_some h h'
  have q1 : ∀ W : World, (binOp .eql 24 (.agg #[.string ⟨#[107, 105, 108, 111]⟩, .string ⟨#[109, 101, 116, 101, 114]⟩, .int .i64 2]) (.agg #[.string ⟨#[107, 105, 108, 111]⟩, .string ⟨#[109, 101, 116, 101, 114]⟩, .int .i64 2])).run Tryd.prog W = .ok (.bool true) W := fun W => by
    rw [aeq W]; rw [show eqA ⟨#[107, 105, 108, 111]⟩ ⟨#[109, 101, 116, 101, 114]⟩ 2 ⟨#[107, 105, 108, 111]⟩ ⟨#[109, 101, 116, 101, 114]⟩ 2 = true by decide +kernel]
  have HB := Bel.refl w
  go_enter Tryd.func7, Tryd.ntmps7
  go_wp2_with (first
    | (go_at_call 9; (with_reducible refine (CS.out _).mono ?_); rintro e w1 ⟨A, B, rfl, hN, hP, hb⟩; (replace HB := HB.up hb.hid); clear hb)
    | (go_at_call 8; (with_reducible refine (CP.out hN hP).mono ?_); rintro e w2 ⟨rfl, hb⟩; (replace HB := (HB.al _).up hb.hid); clear hb hN hP)
    | (go_at_call 11; (with_reducible refine (CH.out _).mono ?_); rintro e w3 ⟨rfl, hb⟩; (replace HB := (HB.al _).up hb); clear hb)
    | (go_at_call 10; (with_reducible refine (CG.out hN hP).mono ?_); rintro e w4 ⟨rfl, hb⟩; (replace HB := HB.up hb.hid); clear hb)
    | fail)
  go_ret
  exact ⟨rfl, HB⟩
end Go.Proofs.YtkjcnpckajpogaaDoor
