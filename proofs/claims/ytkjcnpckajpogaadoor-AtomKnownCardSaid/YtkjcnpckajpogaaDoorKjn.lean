/- Words: Join. Conditions: a text that fits. -/
import Derived.Test.YtkjcnpckajpogaaDoorYb
import Derived.Test.YtkjcnpckajpogaaDoorYd
import Derived.Test.YtkjcnpckajpogaaDoorShf
open Go.RowKit
set_option maxRecDepth 100000
namespace Go.Proofs.YtkjcnpckajpogaaDoor
/-- The words put together with a hyphen between them. -/
def joinS (xs : List ByteArray) : ByteArray := ⟨(glue 45 (xs.map (·.data.toList))).toArray⟩
def StrR (W : World) (s : ByteArray) (e : Ending) (w' : World) : Prop := e = .returned (.string s) ∧ Hid (Below W.heap.size W w')
theorem plain_of {w : World} {ad : Addr} {v : Value} (h : w.cell? ad = some v) : ∃ b o, ad = ⟨b, o, none⟩ := by
  obtain ⟨b, o, sp⟩ := ad
  cases sp with
  | none => exact ⟨b, o, rfl⟩
  | some k =>
    unfold World.cell? at h
    split at h
    · simp at h
    · cases h
theorem sjoin_any {w : World} {A : Option Addr} {n c : Nat} {xs : List ByteArray} (h : Ss w A xs) (hn : n = xs.length) (hc : n ≤ c) (hN : n ≤ 1000000) (hl : (glue 45 (xs.map (·.data.toList))).length ≤ 140737488355328) :
    Calls Tryd.prog 35 #[.slice A n c, .string ⟨#[45]⟩] w (StrR w (joinS xs)) := by
  subst hn
  cases xs with
  | nil =>
    refine (Tryd.strings_Join_none A c ⟨#[45]⟩ w).mono fun e w' ⟨he, hw⟩ => ⟨by rw [he]; rfl, by rw [hw]; exact Below.refl _ _⟩
  | cons x xs =>
    obtain ⟨ad, rfl, hb, hcell⟩ := h.out (by simp)
    have h0 := hcell 0 x rfl
    obtain ⟨b, o, hbo⟩ := plain_of h0
    rw [show ad.add 0 = ad by simp [Addr.add]] at hbo
    subst hbo
    have hcl : ∀ (j : Nat) y, (x :: xs)[j]? = some y → w.cell? ⟨b, o + j, none⟩ = some (.string y) := fun j y hj => by
      have h1 := hcell j y hj
      have e : (⟨b, o, none⟩ : Addr).add j = ⟨b, o + j, none⟩ := by unfold Addr.add; split <;> simp_all
      rwa [e] at h1
    have c1 := Tryd.strings_Join b o c (x :: xs) ⟨#[45]⟩ w hcl hb (by omega) hc (by rw [show (⟨#[45]⟩ : ByteArray).data.toList = [45] from rfl, join_glue]; exact hl)
    refine c1.mono fun e w' ⟨he, hw⟩ => ⟨?_, hw⟩
    rw [he, show (⟨#[45]⟩ : ByteArray).data.toList = [45] from rfl, join_glue]; rfl
theorem wjoin_any {w : World} {A : Option Addr} {n c : Nat} {xs : List ByteArray} (h : Ss w A xs) (hn : n = xs.length) (hc : n ≤ c) (hN : n ≤ 1000000) (hl : (glue 45 (xs.map (·.data.toList))).length ≤ 140737488355328) :
    Calls Tryd.prog 22 #[.slice A n c] w (StrR w (joinS xs)) := by
  have CJ := yhide (sjoin_any h hn hc hN hl)
  clear h hn hc hN hl
  obtain ⟨t, ht⟩ : ∃ t, t = joinS xs := ⟨_, rfl⟩
  rw [← ht] at CJ ⊢
  clear ht
  go_enter Tryd.func22, Tryd.ntmps22
  go_wp2_with (first | (go_at_call 35; (with_reducible refine CJ.out.mono ?_); rintro e w1 ⟨rfl, hbk⟩) | fail)
  go_ret
  exact ⟨rfl, hbk⟩
end Go.Proofs.YtkjcnpckajpogaaDoor
