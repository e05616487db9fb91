/- What the statements of rows begin with (awake). No conditions. -/
import Derived.Test.YtbmpbcnhgnmekaaDoorEg
import Derived.Test.YtbmpbcnhgnmekaaDoorEh
open Go.RowKit
set_option maxRecDepth 100000
namespace Go.Proofs.YtbmpbcnhgnmekaaDoor
theorem lit_ss (W : World) (xs : List ByteArray) (cs : Array Value) (hc : cs = (xs.map Value.string).toArray) (t : TypeId) : Ss (W.alloc (.cells cs t)) (some ⟨W.heap.size, 0, none⟩) xs := by
  subst hc; exact pieces_ss W xs t
theorem cell_at2 (W : World) (x y : Value) (t : TypeId) : (W.alloc (.cells #[x, y] t)).cell? ⟨W.heap.size, 0, none⟩ = some x ∧ (W.alloc (.cells #[x, y] t)).cell? ⟨W.heap.size, 1, none⟩ = some y := by
  have h := World.alloc_heap_new W (.cells #[x, y] t)
  refine ⟨?_, ?_⟩ <;> (simp only [World.cell?]; rw [h]; rfl)
/-- A literal of one row. -/
theorem rs_lit1 {V : World} {A : Option Addr} {c l m : Nat} {ws : List ByteArray} (h : Ss V A ws) (hm : m = ws.length) (hA : A = none → c = 0) (hc : m ≤ c) (t : TypeId) :
    Rs (V.alloc (.cells #[.int .i64 (l : Int), .slice A m c] t)) (some ⟨V.heap.size, 0, none⟩) [(l, ws)] := fun _ => by
  obtain ⟨h1, h2⟩ := cell_at2 V (.int .i64 (l : Int)) (.slice A m c) t
  refine ⟨V.heap.size, [.slice A m c], rfl, by simp, rfl, fun j r v hr hv => ?_⟩
  cases j with
  | zero =>
    simp at hr hv
    subst hr; subst hv; subst hm
    exact ⟨h1, h2, A, c, rfl, hA, hc, (h.al _).out⟩
  | succ j => simp at hr
def ab1 : List TRow := [(1, [⟨#[97]⟩, ⟨#[98]⟩])]
theorem tbl_ab : tableOf ⟨#[97, 32, 98, 32, 35, 32, 99]⟩ = (ab1, 0, 0) := by decide +kernel
theorem show_ab : showB ab1 = ⟨#[97, 32, 98, 10]⟩ := by decide +kernel
theorem blank_a : blankB ⟨#[95, 97, 95]⟩ = ⟨#[32, 97, 32]⟩ := by decide +kernel
set_option maxHeartbeats 4000000 in
theorem awake7_h (w : World) : Calls Tryd.prog 7 #[] w (TextsR w true) := by
  obtain ⟨rs, hrs⟩ : ∃ x, x = ab1 := ⟨_, rfl⟩
  have C1 : Hid (∀ V, Calls Tryd.prog 8 #[.string ⟨#[97, 32, 98, 32, 35, 32, 99]⟩] V fun e w' => ∃ A c, e = .returned (.tuple #[.slice A 1 c, .int .i64 0, .int .i64 0]) ∧ Rs w' A rs ∧ Hid (Below V.heap.size V w')) := fun V =>
    (parse_any tbl_ab V).mono fun e w' ⟨A, c, h1, _, h3, h4⟩ => ⟨A, c, h1, by rw [hrs]; exact h3, h4⟩
  have C2 : Hid (∀ V A c, Rs V A rs → Calls Tryd.prog 10 #[.slice A 1 c, .slice (some ⟨V.heap.size + 1, 0, none⟩) 1 1] ((V.alloc (.cells #[.string ⟨#[97]⟩, .string ⟨#[98]⟩] 9)).alloc (.cells #[.int .i64 1, .slice (some ⟨V.heap.size, 0, none⟩) 2 2] 31)) (TextsR ((V.alloc (.cells #[.string ⟨#[97]⟩, .string ⟨#[98]⟩] 9)).alloc (.cells #[.int .i64 1, .slice (some ⟨V.heap.size, 0, none⟩) 2 2] 31)) true)) := fun V A c h => by
    have h1 := rs_lit1 (l := 1) (c := 2) (m := 2) (lit_ss V [⟨#[97]⟩, ⟨#[98]⟩] _ rfl 9) rfl (fun h => by cases h) (Nat.le_refl _) 31
    simp only [World.size_alloc] at h1
    refine alike_same (rs := rs) ((h.al _).al _) (by rw [hrs]; exact h1) (by rw [hrs]; rfl) (by decide) (by rw [hrs]; decide)
  have C3 : Hid (∀ V A c, Rs V A rs → Calls Tryd.prog 15 #[.slice A 1 c] V (StrR V ⟨#[97, 32, 98, 10]⟩)) := fun V A c h =>
    show_any (by rw [hrs]; exact show_ab) h (by rw [hrs]; rfl) (by decide) (by rw [hrs]; decide) (by rw [hrs]; decide)
  have C4 : Hid (∀ V, Calls Tryd.prog 13 #[.string ⟨#[95, 97, 95]⟩] V (StrR V ⟨#[32, 97, 32]⟩)) := fun V => blank_any (by decide) blank_a V
  clear hrs
  go_enter Tryd.func7, Tryd.ntmps7
  go_wp2_with (first
    | (go_at_call 8; (with_reducible refine (C1.out _).mono ?_); rintro e w1 ⟨A, c, rfl, HR, HB⟩)
    | (go_at_call 10; (refine (C2.out _ _ _ HR).mono ?_); rintro e w2 ⟨rfl, hb⟩; replace HR := ((HR.al _).al _).up hb; replace HB : Hid (Below w.heap.size w w2) := ((HB.out.alloc HB.out.size _).alloc (by have := HB.out.size; simp; omega) _).trans (hb.out.mono (by have := HB.out.size; simp; omega)); clear hb)
    | (go_at_call 15; (with_reducible refine (C3.out _ _ _ HR).mono ?_); rintro e w3 ⟨rfl, hb⟩; replace HB : Hid (Below w.heap.size w w3) := HB.out.trans (hb.out.mono HB.out.size); clear hb)
    | (go_at_call 13; (with_reducible refine (C4.out _).mono ?_); rintro e w4 ⟨rfl, hb⟩; replace HB : Hid (Below w.heap.size w w4) := HB.out.trans (hb.out.mono HB.out.size); clear hb)
    | fail)
  go_ret
  exact ⟨rfl, HB⟩
end Go.Proofs.YtbmpbcnhgnmekaaDoor
