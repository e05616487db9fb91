/- Package dims: Text. No conditions. -/
import Derived.Test.YtibigdblapgmdaaDoorShf
import Derived.Test.YtibigdblapgmdaaDoorVd
import Derived.Laws.OwnMore
import Derived.Maps.AppendAt
import Derived.OwnWalk
open Go.RowKit
set_option maxRecDepth 100000
namespace Go.Proofs.YtibigdblapgmdaaDoor
def StrV (W : World) (s : ByteArray) (e : Ending) (w' : World) : Prop := e = .returned (.string s) ∧ Hid (Below W.heap.size W w')
theorem vown_form {w : World} {base : Nat} {e : TypeId} {size : Nat} {v : Value} {n : Nat} {xs : List Value} (h : w.ownsRow base e size v (n + 1) xs) : ∃ g cap, v = .slice (some ⟨g, 0, none⟩) (n + 1) cap := by
  rcases h.2 with ⟨_, h0⟩ | ⟨g, cap, _, h0, _⟩
  · omega
  · exact ⟨g, cap, h0⟩
theorem vown_up {w w' : World} {base : Nat} {e : TypeId} {size : Nat} {v : Value} {n : Nat} {xs : List Value} (h : w.ownsRow base e size v n xs) (hb : Hid (Below w.heap.size w w')) : w'.ownsRow base e size v n xs :=
  h.kept (row := none) ⟨hb.out.os, hb.out.tape, hb.out.output, hb.out.size, fun k hk _ => hb.out.block k hk⟩ (by cases v.ownBlock <;> simp)
theorem vinfoStr : (Tryd.prog.info? 9).map (fun i => (i.zero, i.size, i.bytes)) = some (some (.string ByteArray.empty), 1, 16) := by kernel_rfl
def vtexts (t : Nat → ByteArray) (k : Nat) : List ByteArray := (List.range k).map t
theorem vtexts_succ (t : Nat → ByteArray) (k : Nat) : vtexts t (k + 1) = vtexts t k ++ [t k] := by unfold vtexts; rw [List.range_succ, List.map_append]; rfl
set_option maxHeartbeats 2000000 in
theorem text_h {a : V8} {t : Nat → ByteArray} {s : ByteArray} (w : World) (CI : ∀ k, k < 8 → ∀ W, Below w.heap.size w W → Calls Tryd.prog 26 #[.int .i64 (a.at_ k)] W (StrV W (t k)))
    (hs : s = ⟨(Lib.join ((vtexts t 8).map (·.data.toList)) [44]).toArray⟩) (hl : (Lib.join ((vtexts t 8).map (·.data.toList)) [44]).length ≤ 140737488355328) : Calls Tryd.prog 17 #[a.v] w (StrV w s) := by
  have C1 := vhide CI
  have HS := vhide hs
  have HL := vhide hl
  obtain ⟨i0, hi, hz0, hz1, hz2⟩ := info_parts vinfoStr
  have J0 := vhide hi; have Y0 := vhide hz0; have Y1 := vhide hz1; have Y2 := vhide hz2
  clear CI hs hl hi hz0 hz1 hz2
  go_enter Tryd.func17, Tryd.ntmps17
  go_wp2
  obtain ⟨W1, hW1⟩ : ∃ X, X = w.alloc (.cells a.c.toArray 24) := ⟨_, rfl⟩
  rw [← hW1]
  have HB : Hid (Below w.heap.size w W1) := by rw [hW1]; exact (Below.refl _ _).alloc (Nat.le_refl _) _
  clear hW1
  go_loopw [3, 7] (fun lv iv wr => ∃ (k : Nat) (A : Option Addr) (cp : Nat), k ≤ 8 ∧ iv = .int .i64 (k : Int) ∧ lv = .slice A k cp ∧ Hid (wr.ownsRow w.heap.size 9 1 (.slice A k cp) k ((vtexts t k).map Value.string)) ∧ Hid (Below w.heap.size w wr)) (fun _ iv _ => 8 - (intOf iv).toNat)
  case atStart => exact ⟨0, none, 0, by omega, rfl, rfl, World.ownsRow_nil _ _ _ _, HB⟩
  case round =>
    obtain ⟨k, A, cp, hk, rfl, rfl, HO, HW⟩ := hrel
    clear HB
    by_cases hlt : k < 8
    · have hi := vidx a hlt
      have C2 := vhide (C1.out k hlt)
      have HT := vhide (vtexts_succ t k)
      obtain ⟨x, hx⟩ : ∃ x, x = a.at_ k := ⟨_, rfl⟩
      obtain ⟨u, hu⟩ : ∃ u, u = t k := ⟨_, rfl⟩
      rw [← hx] at hi C2
      rw [← hu] at HT C2
      clear hx hu
      go_wp2_with (first
        | (go_at_call 26; (with_reducible refine (C2.out _ HW.out).mono ?_); rintro e w2 ⟨rfl, hb⟩; replace HO := vhide (vown_up HO.out hb); replace HW := vhide (HW.out.trans (hb.out.mono HW.out.size)); clear hb)
        | (at_builtin; refine wpList_append_own _ rfl _ _ 35 rfl w.heap.size 9 i0 (.string ByteArray.empty) 1 16 Tryd.underlying35 J0.out Y0.out Y1.out Y2.out rfl (by decide) _ _ _ rfl (HO.out.alloc _) ⟨w2.heap.size, 0, none⟩ 1 1 [.string u] rfl rfl (cell_one_new _ _ _) (by intro z hz; simp at hz; subst hz; rfl) (by simp only [maxLen]; omega) (by omega) (Nat.le_trans HW.out.size (by simp) |> Nat.le_trans (Nat.le_refl _)) ?_; intro v1 w3 ho1 hg1 hn1; clear hn1; obtain ⟨g1, cap1, rfl⟩ := vown_form ho1)
        | fail)
      have HW2 : Hid (Below w.heap.size w w3) := (HW.out.alloc HW.out.size _).grown hg1 (Nat.le_trans HW.out.size (by simp)) (fun g' e => (HO.out.lt g' e).1)
      have HO2 := vhide ho1
      clear ho1 hg1
      go_roundw
      case rel =>
        refine ⟨k + 1, some ⟨g1, 0, none⟩, cap1, by omega, by go_num, rfl, ?_, HW2⟩
        unfold Hid
        rw [HT.out, List.map_append]
        exact HO2.out
      case measure => simp [intOf]; omega
    · obtain rfl : k = 8 := by omega
      obtain ⟨g, cap, hg⟩ := vown_form HO.out
      injection hg with h1 _ h2
      subst h1; subst h2
      have CJ : Hid (Calls Tryd.prog 27 #[.slice (some ⟨g, 0, none⟩) 8 cp, .string ⟨#[44]⟩] wr (StrV wr s)) := by
        obtain ⟨hlen, h0 | ⟨g', cap', cur, e, hb, hg, hc1, _, _, _⟩⟩ := HO.out
        · cases h0.1
        · injection e with e _ e2
          injection e with e
          injection e with e
          subst e; subst e2
          have hN : (vtexts t 8).length = 8 := by simp [vtexts]
          have h1 := Tryd.strings_Join g 0 cp (vtexts t 8) ⟨#[44]⟩ wr (fun j x hj => by
            have := HO.out.cells (g := g) rfl j (.string x) (by rw [List.getElem?_map, hj]; rfl)
            rwa [show (⟨g, 0, none⟩ : Addr).add j = ⟨g, 0 + j, none⟩ by unfold Addr.add; split <;> simp_all] at this) (Array.getElem?_eq_some_iff.1 hg).1 (by rw [hN]; decide) (by rw [hN]; exact hc1) HL.out
          rw [hN] at h1
          exact h1.mono fun e w' ⟨he, hw⟩ => ⟨by rw [he, HS.out], hw⟩
      clear HO
      go_wp2_with (first | (go_at_call 27; (with_reducible refine CJ.out.mono ?_); rintro e w2 ⟨rfl, hb⟩) | fail)
      go_ret
      exact ⟨rfl, HW.out.trans (hb.out.mono HW.out.size)⟩
end Go.Proofs.YtibigdblapgmdaaDoor
