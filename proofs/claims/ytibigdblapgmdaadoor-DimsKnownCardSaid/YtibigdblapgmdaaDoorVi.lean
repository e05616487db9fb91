/- slices.Clone of strings; package dims: All; the law's texts. No conditions. -/
import Derived.Test.YtibigdblapgmdaaDoorVh
import Derived.Deep.AppendLies
import Derived.Lib.SliceRun
open Go.RowKit
set_option maxRecDepth 100000
namespace Go.Proofs.YtibigdblapgmdaaDoor
/-- A slice of n texts that a call hands back. -/
def RetSs (W : World) (n : Nat) (xs : List ByteArray) (e : Ending) (w' : World) : Prop := ∃ A c, e = .returned (.slice A n c) ∧ Ss w' A xs ∧ Hid (Below W.heap.size W w')
theorem own_ss {w : World} {base n c : Nat} {A : Option Addr} {xs : List ByteArray} (h : w.ownsRow base 9 1 (.slice A n c) n (xs.map Value.string)) : n = xs.length ∧ Ss w A xs := by
  have h1 := h.1
  rw [List.length_map] at h1
  have h2 : n = xs.length := by omega
  subst h2
  exact ⟨rfl, RS.of_own h⟩
set_option maxHeartbeats 2000000 in
theorem vclone_ss {W : World} {A : Option Addr} {n c : Nat} {xs : List ByteArray} (h : Ss W A xs) (hn : n + 1 = xs.length) (hN : n + 1 ≤ 1000000) :
    Calls Tryd.prog 25 #[.slice A (n + 1) c] W (RetSs W (n + 1) xs) := by
  obtain ⟨ad, rfl, hb, hc⟩ := h.out (by omega)
  have q : ∀ (w : World) (a : Option Addr) (n c n' c' : Nat), (binOp .eql 35 (.slice a n c) (.slice none n' c')).run Tryd.prog w = .ok (.bool a.isNone) w := fun w a n c n' c' => Lib.run_eql_slice_nil w _ _ a n c n' c' Tryd.underlying35
  obtain ⟨i0, hi, hz0, hz1, hz2⟩ := info_parts vinfoStr
  have HC := vhide hc
  have HNN := vhide hn
  have HB := vhide hb
  have J0 := vhide hi; have Y0 := vhide hz0; have Y1 := vhide hz1; have Y2 := vhide hz2
  clear hc hn hb hi hz0 hz1 hz2 h
  go_enter Tryd.func25, Tryd.ntmps25
  go_wp2_with (at_builtin; refine wpList_append_own _ rfl _ _ 35 rfl W.heap.size 9 i0 (.string ByteArray.empty) 1 16 Tryd.underlying35 J0.out Y0.out Y1.out Y2.out rfl (by decide) _ _ _ rfl (World.ownsRow_made W #[] 0 (Nat.le_refl _) (Nat.zero_le _) rfl) ad (n + 1) c (xs.map Value.string) rfl ?qc1 ?qc2 ?qc3 ?qc4 ?qc5 ?qc6 ?_)
  case qc1 => rw [List.length_map, ← HNN.out]; omega
  case qc2 =>
    intro j u hj
    rw [List.getElem?_map] at hj
    obtain ⟨x, hx, rfl⟩ := Option.map_eq_some_iff.1 hj
    have h1 : (ad.add j).block < W.heap.size := by rw [yblock_add]; exact HB.out
    rw [World.cell?_alloc_lt W _ _ h1]
    exact HC.out j x hx
  case qc3 => intro u hu; obtain ⟨x, _, rfl⟩ := List.mem_map.1 hu; rfl
  case qc4 => unfold maxLen; omega
  case qc5 => omega
  case qc6 => simp
  intro v' w1 hown hgrow hnil
  have hown2 : w1.ownsRow W.heap.size 9 1 v' (n + 1) (xs.map Value.string) := by simpa using hown
  obtain ⟨g, cap, rfl⟩ := vown_form hown2
  go_wp2
  go_ret
  refine ⟨some ⟨g, 0, none⟩, cap, rfl, (own_ss hown2).2, ?_⟩
  exact ((Below.refl _ W).alloc (Nat.le_refl _) _).grown hgrow (by simp) (by intro k hk; simp [Value.ownBlock] at hk; omega)
theorem vclone_nil (W : World) : Calls Tryd.prog 25 #[.slice none 0 0] W (RetSs W 0 []) := by
  have q : ∀ (w : World) (a : Option Addr) (n c n' c' : Nat), (binOp .eql 35 (.slice a n c) (.slice none n' c')).run Tryd.prog w = .ok (.bool a.isNone) w := fun w a n c n' c' => Lib.run_eql_slice_nil w _ _ a n c n' c' Tryd.underlying35
  go_enter Tryd.func25, Tryd.ntmps25
  go_wp2
  go_ret
  exact ⟨none, 0, rfl, RS.nil, Below.refl _ _⟩
theorem vall_h {base p b cp n : Nat} {A : Option Addr} {vs : List V8} {xs : List ByteArray} {W : World} (h : Nms base W p b A cp n vs xs) (hn : n ≤ 1000000) :
    Calls Tryd.prog 15 #[.pointer (some ⟨p, 0, none⟩)] W (RetSs W n xs) := by
  obtain ⟨h1, h2⟩ := own_ss h.own
  have n0 := h.c0
  have C1 : Hid (Calls Tryd.prog 25 #[.slice A n cp] W (RetSs W n xs)) := by
    cases n with
    | zero =>
      obtain ⟨h3, h5⟩ := h.nil rfl
      subst h3; subst h5
      have : xs = [] := List.eq_nil_of_length_eq_zero h1.symm
      subst this
      exact vclone_nil W
    | succ m => exact vclone_ss h2 h1 (by omega)
  clear h h1 h2
  go_enter Tryd.func15, Tryd.ntmps15
  go_wp2_with (first | (go_at_call 25; (with_reducible refine C1.out.mono ?_); rintro e w2 ⟨A', c', rfl, hss, hb⟩) | fail)
  go_ret
  exact ⟨A', c', rfl, hss, hb⟩
end Go.Proofs.YtibigdblapgmdaaDoor
