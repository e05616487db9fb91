/- What the statements of word begin with (awake). No conditions. -/
import Derived.Test.YteahcbeohopdlaaDoorYf
import Derived.Test.YteahcbeohopdlaaDoorYh
open Go.RowKit
set_option maxRecDepth 100000
namespace Go.Proofs.YteahcbeohopdlaaDoor
theorem map_data_inj {xs ys : List ByteArray} (h : xs.map (·.data.toList) = ys.map (·.data.toList)) : xs = ys := by
  induction xs generalizing ys with
  | nil => cases ys with
    | nil => rfl
    | cons y ys => simp at h
  | cons x xs ih => cases ys with
    | nil => simp at h
    | cons y ys =>
      simp only [List.map_cons, List.cons.injEq] at h
      rw [ih h.2, ByteArray.ext (Array.ext' h.1)]
theorem pcs_of {s : ByteArray} {xs : List ByteArray} (h : parts s.data.toList = xs.map (·.data.toList)) : pcs s = xs := map_data_inj (by rw [pcs_parts, h])
/-- What Split leaves at a text whose parts xs are words. -/
def SplitN (W : World) (n : Nat) (xs : List ByteArray) (e : Ending) (w' : World) : Prop := ∃ ad c, e = .returned (.tuple #[.slice (some ad) n c, .int .i64 0]) ∧ n ≤ c ∧ Ss w' (some ad) xs ∧ Hid (Below W.heap.size W w')
theorem split_ok {W : World} {s : ByteArray} {xs : List ByteArray} {n : Nat} (hs : s.size ≤ 256) (h : parts s.data.toList = xs.map (·.data.toList)) (hg : goodAll xs = true) (hn : xs.length = n) : Calls Tryd.prog 50 #[.string s] W (SplitN W n xs) := by
  have h1 := wsplit_any hs W
  rw [pcs_of h, if_pos hg] at h1
  refine h1.mono fun e w' ⟨ad, c, he, hc, hss, hb⟩ => ⟨ad, c, by rw [he, hn], by omega, hss, hb⟩
theorem split_bad {W : World} {s : ByteArray} {xs : List ByteArray} (hs : s.size ≤ 256) (h : parts s.data.toList = xs.map (·.data.toList)) (hg : goodAll xs = false) : Calls Tryd.prog 50 #[.string s] W (SplitNo W 2) := by
  have h1 := wsplit_any hs W
  rw [pcs_of h, if_neg (by rw [hg]; simp)] at h1
  exact h1
theorem texts_h {W : World} {A A' : Option Addr} {n n' c c' : Nat} {xs ys : List ByteArray} {b : Bool} (h : Ss W A xs) (h' : Ss W A' ys) (hn : n = xs.length) (hn' : n' = ys.length) (hl : n ≤ 1000000) (hl' : n' ≤ 1000000) (hb : decide (xs = ys) = b) :
    Calls Tryd.prog 52 #[.slice A n c, .slice A' n' c'] W (TextsR W b) := by
  subst hb
  exact texts_any h h' hn hn' hl hl'
theorem lit_ss (W : World) (xs : List ByteArray) (cs : Array Value) (hc : cs = (xs.map Value.string).toArray) (t : TypeId) : Ss (W.alloc (.cells cs t)) (some ⟨W.heap.size, 0, none⟩) xs := by
  subst hc; exact pieces_ss W xs t
theorem join_h {W : World} {A : Option Addr} {n c : Nat} {xs : List ByteArray} {s : ByteArray} (h : Ss W A xs) (hn : n = xs.length) (hc : n ≤ c) (hN : n ≤ 1000000) (hl : s.size ≤ 140737488355328) (hs : glue 45 (xs.map (·.data.toList)) = s.data.toList) :
    Calls Tryd.prog 55 #[.slice A n c] W (StrR W s) := by
  have e : joinS xs = s := by unfold joinS; rw [hs]
  have h1 := wjoin_any (c := c) h hn hc hN (by rw [hs, ← Lib.size_eq]; exact hl)
  rwa [e] at h1
theorem wgood_h {s : ByteArray} {b : Bool} (h : goodW s.data.toList = b) (W : World) : Calls Tryd.prog 54 #[.string s] W fun e w' => e = .returned (.bool b) ∧ W = w' := by
  subst h; exact wgood_any s W
theorem wnumber_h {s : ByteArray} {b : Bool} (h : numW s.data.toList = b) (W : World) : Calls Tryd.prog 53 #[.string s] W fun e w' => e = .returned (.bool b) ∧ W = w' := by
  subst h; exact wnumber_any s W
def sqme : ByteArray := ⟨#[115, 113, 117, 97, 114, 101, 45, 109, 101, 116, 101, 114]⟩
def sqmes : List ByteArray := [⟨#[115, 113, 117, 97, 114, 101]⟩, ⟨#[109, 101, 116, 101, 114]⟩]
set_option maxHeartbeats 1000000 in
theorem awake6_h (w : World) : Calls Tryd.prog 49 #[] w (TextsR w true) := by
  have C1 := yhide (fun W => split_ok (W := W) (s := sqme) (xs := sqmes) (n := 2) (by decide) (by decide +kernel) (by decide +kernel) rfl)
  have C2 : Hid (∀ W ad c, Ss W (some ad) sqmes → Calls Tryd.prog 52 #[.slice (some ad) 2 c, .slice (some ⟨W.heap.size, 0, none⟩) 2 2] (W.alloc (.cells #[.string ⟨#[115, 113, 117, 97, 114, 101]⟩, .string ⟨#[109, 101, 116, 101, 114]⟩] 9)) (TextsR (W.alloc (.cells #[.string ⟨#[115, 113, 117, 97, 114, 101]⟩, .string ⟨#[109, 101, 116, 101, 114]⟩] 9)) true)) :=
    fun W ad c h => texts_h (xs := sqmes) (ys := sqmes) (h.al _) (lit_ss W sqmes _ rfl _) rfl rfl (by decide) (by decide) (decide_eq_true rfl)
  have C3 : Hid (∀ W ad c, Ss W (some ad) sqmes → 2 ≤ c → Calls Tryd.prog 55 #[.slice (some ad) 2 c] W (StrR W sqme)) := fun W ad c h hc => join_h h rfl hc (by decide) (by decide) (by decide +kernel)
  have C4 := yhide (fun W => wgood_h (s := ⟨#[97, 49]⟩) (b := true) (by decide +kernel) W)
  have C5 := yhide (fun W => wnumber_h (s := ⟨#[49, 48, 48]⟩) (b := true) (by decide +kernel) W)
  unfold sqme at C1 C3
  go_enter Tryd.func49, Tryd.ntmps49
  go_wp2_with (first
    | (go_at_call 50; (with_reducible refine (C1.out _).mono ?_); rintro e w1 ⟨ad, c, rfl, hc, HS, HB⟩)
    | (go_at_call 52; go_must (refine (C2.out _ _ _ HS).mono ?_); rintro e w2 ⟨rfl, hb⟩; replace HS := (HS.al _).up hb; replace HB : Hid (Below w.heap.size w w2) := (HB.out.alloc HB.out.size _).trans (hb.out.mono (by have := HB.out.size; simp; omega)); clear hb)
    | (go_at_call 55; (with_reducible refine (C3.out _ _ _ HS hc).mono ?_); rintro e w3 ⟨rfl, hb⟩; replace HB : Hid (Below w.heap.size w w3) := HB.out.trans (hb.out.mono HB.out.size); clear hb)
    | (go_at_call 54; (with_reducible refine (C4.out _).mono ?_); rintro e w4 ⟨rfl, rfl⟩)
    | (go_at_call 53; (with_reducible refine (C5.out _).mono ?_); rintro e w5 ⟨rfl, rfl⟩)
    | fail)
  go_ret
  exact ⟨rfl, HB⟩
end Go.Proofs.YteahcbeohopdlaaDoor
