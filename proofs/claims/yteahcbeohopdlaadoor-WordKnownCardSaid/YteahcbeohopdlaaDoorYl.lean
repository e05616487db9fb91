/- WordKnown's walk. No conditions. -/
import Derived.Test.YteahcbeohopdlaaDoorYi
open Go.RowKit
set_option maxRecDepth 100000
namespace Go.Proofs.YteahcbeohopdlaaDoor
theorem goodAll_parts (s : ByteArray) : goodAll (pcs s) = (parts s.data.toList).all goodW := by
  rw [← pcs_parts, List.all_map]; rfl
def bads : List ByteArray := [⟨#[]⟩, ⟨#[45]⟩, ⟨#[97, 45]⟩, ⟨#[45, 97]⟩, ⟨#[97, 45, 45, 98]⟩, ⟨#[65]⟩, ⟨#[97, 95, 98]⟩, ⟨#[97, 98, 99, 100, 101, 102, 103, 104, 105, 106, 107, 108, 109, 110, 111, 112, 113, 114, 115, 116, 117]⟩]
theorem bads_no : ∀ x ∈ bads, ∀ W : World, Calls Tryd.prog 50 #[.string x] W (SplitNo W 2) := by
  intro x hx W
  have h1 : ∀ x ∈ bads, x.size ≤ 256 ∧ (parts x.data.toList).all goodW = false := by decide +kernel
  have h2 := wsplit_any (h1 x hx).1 W
  rw [if_neg (by rw [goodAll_parts, (h1 x hx).2]; simp)] at h2
  exact h2
/-- The cell at p holds v in world W, and goes on to. -/
def Cl (W : World) (p : Addr) (v : Value) : Prop := Hid (p.block < W.heap.size ∧ W.cell? p = some v)
theorem Cl.up {W W' : World} {p : Addr} {v : Value} (h : Cl W p v) (hb : Hid (Below W.heap.size W W')) : Cl W' p v :=
  ⟨Nat.lt_of_lt_of_le h.out.1 hb.out.size, (hb.out.cell h.out.1).trans h.out.2⟩
theorem Cl.al {W : World} {p : Addr} {v : Value} (h : Cl W p v) (o : Obj) : Cl (W.alloc o) p v := h.up ((Below.refl _ _).alloc (Nat.le_refl _) o)
theorem Cl.cell {W : World} {p : Addr} {v : Value} (h : Cl W p v) : W.cell? p = some v := h.out.2
theorem sss_at {W : World} {ad : Addr} {css : List (List ByteArray)} {k : Nat} {xs : List ByteArray} (h : Sss W (some ad) css) (hk : css[k]? = some xs) : ∃ A c, Cl W (ad.add k) (.slice A xs.length c) ∧ Ss W A xs := by
  have hl : k < css.length := by
    rcases Nat.lt_or_ge k css.length with h1 | h1
    · exact h1
    · rw [List.getElem?_eq_none h1] at hk; cases hk
  obtain ⟨ad2, A, c, e, hb, hc, hr, _⟩ := h.out.at_ hl
  injection e with e
  subst e
  rw [List.getElem?_eq_getElem hl] at hk
  injection hk with hk
  subst hk
  exact ⟨A, c, ⟨by rw [yblock_add]; exact hb, hc⟩, hr⟩
def ystrLen : Value → Nat
  | .string s => s.size
  | _ => 0
theorem ystr_meas {S : ByteArray} (h : S.size < 257) : 257 - ystrLen (.string (S ++ (⟨#[45, 97]⟩ : ByteArray))) < 257 - ystrLen (.string S) := by
  have h1 : ystrLen (.string (S ++ (⟨#[45, 97]⟩ : ByteArray))) = S.size + 2 := by
    show (S ++ (⟨#[45, 97]⟩ : ByteArray)).size = S.size + 2
    rw [ByteArray.size_append]; rfl
  have h2 : ystrLen (.string S) = S.size := rfl
  rw [h1, h2]; omega
theorem plain_add (g k : Nat) : (⟨g, 0, none⟩ : Addr).add k = ⟨g, k, none⟩ := by unfold Addr.add; split <;> simp_all
theorem wcut_h {A : Option Addr} {n c m : Nat} {xs : List ByteArray} {t : ByteArray} {css : List (List ByteArray)} {w : World} (h : Ss w A xs) (hn : n = xs.length) (hl : n ≤ 1000000) (hc : cutBy t xs = css) (hm : css.length = m) :
    Calls Tryd.prog 51 #[.slice A n c, .string t] w fun e w' => ∃ ad c, e = .returned (.slice (some ad) m c) ∧ Sss w' (some ad) css ∧ Hid (Below w.heap.size w w') := by
  subst hc; subst hm
  exact wcut_any h hn hl
set_option maxHeartbeats 4000000 in
theorem wknown_walk (w : World) : Calls Tryd.prog 6 #[] w (TextsR w true) := by
  have CA := yhide (fun W => awake6_h W)
  have CB := yhide bads_no
  have CL : Hid (∀ (s : ByteArray) W, 256 < s.size → Calls Tryd.prog 50 #[.string s] W (SplitNo W 11)) := fun s W hs => wsplit_long hs W
  have CC : Hid (∀ W : World, Calls Tryd.prog 51 #[.slice (some ⟨W.heap.size, 0, none⟩) 4 4, .string ⟨#[97, 110, 100]⟩] (W.alloc (.cells #[.string ⟨#[97]⟩, .string ⟨#[97, 110, 100]⟩, .string ⟨#[97, 110, 100]⟩, .string ⟨#[98]⟩] 9)) fun e w' => ∃ ad c, e = .returned (.slice (some ad) 3 c) ∧ Sss w' (some ad) [[⟨#[97]⟩], [], [⟨#[98]⟩]] ∧ Hid (Below (W.alloc (.cells #[.string ⟨#[97]⟩, .string ⟨#[97, 110, 100]⟩, .string ⟨#[97, 110, 100]⟩, .string ⟨#[98]⟩] 9)).heap.size (W.alloc (.cells #[.string ⟨#[97]⟩, .string ⟨#[97, 110, 100]⟩, .string ⟨#[97, 110, 100]⟩, .string ⟨#[98]⟩] 9)) w')) :=
    fun W => wcut_h (lit_ss W [⟨#[97]⟩, ⟨#[97, 110, 100]⟩, ⟨#[97, 110, 100]⟩, ⟨#[98]⟩] _ rfl _) rfl (by decide) (by decide +kernel) rfl
  have CX : Hid (∀ W : World, Calls Tryd.prog 51 #[.slice none 0 0, .string ⟨#[120]⟩] W fun e w' => ∃ ad c, e = .returned (.slice (some ad) 1 c) ∧ Sss w' (some ad) [[]] ∧ Hid (Below W.heap.size W w')) :=
    fun W => wcut_h (xs := []) RS.nil rfl (by decide) rfl rfl
  have T1 : Hid (∀ W A c, Ss W A [⟨#[97]⟩] → Calls Tryd.prog 52 #[.slice A 1 c, .slice (some ⟨W.heap.size, 0, none⟩) 1 1] (W.alloc (.cells #[.string ⟨#[97]⟩] 9)) (TextsR (W.alloc (.cells #[.string ⟨#[97]⟩] 9)) true)) :=
    fun W A c h => texts_h (h.al _) (lit_ss W [⟨#[97]⟩] _ rfl _) rfl rfl (by decide) (by decide) (decide_eq_true rfl)
  have T2 : Hid (∀ W A c, Ss W A [⟨#[98]⟩] → Calls Tryd.prog 52 #[.slice A 1 c, .slice (some ⟨W.heap.size, 0, none⟩) 1 1] (W.alloc (.cells #[.string ⟨#[98]⟩] 9)) (TextsR (W.alloc (.cells #[.string ⟨#[98]⟩] 9)) true)) :=
    fun W A c h => texts_h (h.al _) (lit_ss W [⟨#[98]⟩] _ rfl _) rfl rfl (by decide) (by decide) (decide_eq_true rfl)
  have CJ : Hid (∀ W, Calls Tryd.prog 55 #[.slice none 0 0] W (StrR W ⟨#[]⟩)) := fun W => join_h (xs := []) RS.nil rfl (by decide) (by decide) (by decide) rfl
  have CG := yhide (fun W => wgood_h (s := ⟨#[97, 98, 99, 100, 101, 102, 103, 104, 105, 106, 107, 108, 109, 110, 111, 112, 113, 114, 115, 116, 117]⟩) (b := false) (by decide +kernel) W)
  have CN0 := yhide (fun W => wnumber_h (s := ⟨#[48]⟩) (b := false) (by decide +kernel) W)
  have CN1 := yhide (fun W => wnumber_h (s := ⟨#[48, 49]⟩) (b := false) (by decide +kernel) W)
  have CN2 := yhide (fun W => wnumber_h (s := ⟨#[]⟩) (b := false) (by decide +kernel) W)
  have CN3 := yhide (fun W => wnumber_h (s := ⟨#[49, 50, 51, 52, 53, 54, 55, 56, 57, 48, 49, 50, 51, 52, 53, 54, 55, 56, 57, 48, 49]⟩) (b := false) (by decide +kernel) W)
  have CN4 := yhide (fun W => wnumber_h (s := ⟨#[49, 50, 51, 52, 53, 54, 55, 56, 57, 48, 49, 50, 51, 52, 53, 54, 55, 56, 57, 48]⟩) (b := true) (by decide +kernel) W)
  go_enter Tryd.func6, Tryd.ntmps6
  go_wp2_with (first | (go_at_call 49; (with_reducible refine (CA.out _).mono ?_); rintro e w1 ⟨rfl, HB⟩) | fail)
  obtain ⟨W3, hW3⟩ : ∃ X, X = w1.alloc (.cells #[.string ⟨#[]⟩, .string ⟨#[45]⟩, .string ⟨#[97, 45]⟩, .string ⟨#[45, 97]⟩, .string ⟨#[97, 45, 45, 98]⟩, .string ⟨#[65]⟩, .string ⟨#[97, 95, 98]⟩, .string ⟨#[97, 98, 99, 100, 101, 102, 103, 104, 105, 106, 107, 108, 109, 110, 111, 112, 113, 114, 115, 116, 117]⟩] 9) := ⟨_, rfl⟩
  rw [← hW3]
  have HS : Ss W3 (some ⟨w1.heap.size, 0, none⟩) bads := by rw [hW3]; exact lit_ss w1 bads _ rfl _
  replace HB : Hid (Below w.heap.size w W3) := by rw [hW3]; exact HB.out.alloc HB.out.size _
  clear hW3
  go_loopw [2] (fun iv wr => ∃ k : Nat, k ≤ 8 ∧ iv = .int .i64 (k : Int) ∧ Hid (Below W3.heap.size W3 wr)) (fun iv _ => 8 - (intOf iv).toNat)
  case atStart => exact ⟨0, by omega, rfl, Below.refl _ _⟩
  case round =>
    obtain ⟨k, hk, rfl, hbw⟩ := hrel
    by_cases hlt : k < 8
    · have hx : k < bads.length := hlt
      obtain ⟨ad, e, hb, hcell⟩ := (HS.up hbw).out.at_ hx
      obtain rfl : (⟨w1.heap.size, 0, none⟩ : Addr) = ad := by injection e
      obtain ⟨x, hxe⟩ : ∃ x, x = bads[k] := ⟨_, rfl⟩
      rw [← hxe, plain_add] at hcell
      have CS : Hid (∀ W : World, Calls Tryd.prog 50 #[.string x] W (SplitNo W 2)) := CB.out x (by rw [hxe]; exact List.getElem_mem hx)
      clear hxe hx e
      go_wp2_with (first | (go_at_call 50; (with_reducible refine (CS.out _).mono ?_); rintro e w2 ⟨rfl, hb2⟩; replace hbw : Hid (Below W3.heap.size W3 w2) := hbw.out.trans (hb2.out.mono hbw.out.size); clear hb2) | fail)
      go_roundw
      case rel => exact ⟨k + 1, by omega, by go_num, hbw⟩
      case measure => simp [intOf]; omega
    · obtain rfl : k = 8 := by omega
      replace HB : Hid (Below w.heap.size w wr) := HB.out.trans (hbw.out.mono HB.out.size)
      clear hbw HS hk hlt
      go_wp2
      go_loop [5] (fun sv => ∃ S : ByteArray, sv = .string S ∧ S.size ≤ 300) (fun sv => 257 - ystrLen sv)
      case atStart => exact ⟨_, rfl, by decide⟩
      case round =>
        obtain ⟨S, rfl, hS⟩ := hrel
        by_cases hlt : S.size < 257
        · have q1 : ¬ 9223372036854775807 < S.size + 2 := by omega
          have q2 : S.size + 2 ≤ 9223372036854775807 := by omega
          have q3 : (S.size : Int) < 257 := by omega
          have HLT : Hid (S.size < 257) := hlt
          go_wp2
          go_round
          case rel => exact ⟨_, rfl, by rw [ByteArray.size_append]; show S.size + 2 ≤ 300; omega⟩
          case measure => exact ystr_meas HLT.out
        · have q3 : ¬ (S.size : Int) < 257 := by omega
          have q4 : 256 < S.size := by omega
          clear hS hlt
          go_wp2_with (first
            | (go_at_call 50; (with_reducible refine (CL.out _ _ q4).mono ?_); rintro e w3 ⟨rfl, hb⟩; replace HB : Hid (Below w.heap.size w w3) := HB.out.trans (hb.out.mono HB.out.size); clear hb)
            | (go_at_call 51; (with_reducible refine (CC.out _).mono ?_); rintro e w4 ⟨ad, c, rfl, H4, hb⟩; replace HB : Hid (Below w.heap.size w w4) := (HB.out.alloc HB.out.size _).trans (hb.out.mono (by have := HB.out.size; simp; omega)); clear hb; obtain ⟨A0, c0, K0, S0⟩ := sss_at (k := 0) H4 rfl; obtain ⟨A1, c1, K1, S1⟩ := sss_at (k := 1) H4 rfl; obtain ⟨A2, c2, K2, S2⟩ := sss_at (k := 2) H4 rfl; rw [show ad.add 0 = ad by simp [Addr.add]] at K0; rw [show ad.add 1 = ⟨ad.block, ad.off + 1, none⟩ by simp [Addr.add]] at K1; rw [show ad.add 2 = ⟨ad.block, ad.off + 2, none⟩ by simp [Addr.add]] at K2; have k0 := K0.cell; have k1 := K1.cell; have k2 := K2.cell; clear H4)
            | (go_at_call 52; (with_reducible refine (T1.out _ _ _ S0).mono ?_); rintro e w5 ⟨rfl, hb⟩; replace HB : Hid (Below w.heap.size w w5) := (HB.out.alloc HB.out.size _).trans (hb.out.mono (by have := HB.out.size; simp; omega)); replace K1 := (K1.al _).up hb; replace K2 := (K2.al _).up hb; replace S2 := (S2.al _).up hb; clear hb; have k1 := K1.cell; have k2 := K2.cell)
            | (go_at_call 52; (with_reducible refine (T2.out _ _ _ S2).mono ?_); rintro e w6 ⟨rfl, hb⟩; replace HB : Hid (Below w.heap.size w w6) := (HB.out.alloc HB.out.size _).trans (hb.out.mono (by have := HB.out.size; simp; omega)); clear hb)
            | (go_at_call 51; (with_reducible refine (CX.out _).mono ?_); rintro e w7 ⟨ad7, c7, rfl, H7, hb⟩; replace HB : Hid (Below w.heap.size w w7) := HB.out.trans (hb.out.mono HB.out.size); clear hb H7)
            | (go_at_call 53; (with_reducible refine (CN0.out _).mono ?_); rintro e w8 ⟨rfl, rfl⟩)
            | (go_at_call 53; (with_reducible refine (CN1.out _).mono ?_); rintro e w8 ⟨rfl, rfl⟩)
            | (go_at_call 53; (with_reducible refine (CN2.out _).mono ?_); rintro e w8 ⟨rfl, rfl⟩)
            | (go_at_call 53; (with_reducible refine (CN3.out _).mono ?_); rintro e w8 ⟨rfl, rfl⟩)
            | (go_at_call 53; (with_reducible refine (CN4.out _).mono ?_); rintro e w8 ⟨rfl, rfl⟩)
            | (go_at_call 54; (with_reducible refine (CG.out _).mono ?_); rintro e w9 ⟨rfl, rfl⟩)
            | (go_at_call 55; (with_reducible refine (CJ.out _).mono ?_); rintro e w10 ⟨rfl, hb⟩; replace HB : Hid (Below w.heap.size w w10) := HB.out.trans (hb.out.mono HB.out.size); clear hb)
            | fail)
          go_ret
          exact ⟨rfl, HB⟩
theorem wknown_all (w : World) : Calls Tryd.prog 6 #[] w fun e w' => e = .returned (.bool true) ∧ Below w.heap.size w w' :=
  (wknown_walk w).mono fun _ _ ⟨he, hb⟩ => ⟨he, hb⟩
end Go.Proofs.YteahcbeohopdlaaDoor
