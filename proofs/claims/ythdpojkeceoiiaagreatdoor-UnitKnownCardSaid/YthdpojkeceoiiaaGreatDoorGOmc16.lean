/- Several texts in one, each with its own sentence and conditions. -/
import Derived.Test.YthdpojkeceoiiaaGreatDoorZd
import Derived.Test.YthdpojkeceoiiaaGreatDoorGOmc11
import Derived.Test.YthdpojkeceoiiaaGreatDoorGOmc5
import Derived.Laws.BytesArg
import Derived.Deep.LoopGhost
import Derived.Test.YthdpojkeceoiiaaGreatDoorGOmc3
section
/- Package num: Cmp. Conditions: at most 100000 words. -/
open Go.RowKit
set_option maxRecDepth 100000
namespace Go.Proofs.YthdpojkeceoiiaaGreatDoor
def cmpZ (a b : Int) : Int := if a < b then -1 else if b < a then 1 else 0
theorem al2 (W : World) (o1 o2 : Obj) : Below W.heap.size W ((W.alloc o1).alloc o2) := ((Below.refl _ _).alloc (Nat.le_refl _) _).alloc (by simp) _
section
variable {W : World} {b b' : Bool} {A A' : Option Addr} {n n' c c' : Nat} {z z' : Int}
end
end Go.Proofs.YthdpojkeceoiiaaGreatDoor
end

section
/- A number's letters, read again. No conditions. -/
open Go.RowKit
set_option maxRecDepth 100000
namespace Go.Proofs.YthdpojkeceoiiaaGreatDoor
theorem dig_letter {d : Nat} (h : d < 10) : isDig (letter d) = true := by unfold isDig; rw [letter_toNat h]; simp; omega
theorem dvs_letters (l : List Nat) (h : ∀ d ∈ l, d < 10) : dvs (l.reverse.map letter) = l := by
  unfold dvs
  rw [← List.map_reverse, List.reverse_reverse, List.map_map]
  have : ∀ m : List Nat, (∀ d ∈ m, d < 10) → m.map ((fun c : UInt8 => c.toNat - 48) ∘ letter) = m := by
    intro m
    induction m with
    | nil => intro _; rfl
    | cons d m ih =>
      intro hm
      rw [List.map_cons, ih fun x hx => hm x (List.mem_cons_of_mem _ hx)]
      have := letter_toNat (hm d (List.mem_cons_self ..))
      simp only [Function.comp_apply, this]
      congr 1; omega
  exact this l h
theorem numL_decL (m : Nat) : numL (decL m) = m ∧ digB (decL m) = true := by
  unfold decL
  by_cases h0 : m = 0
  · rw [if_pos h0, h0]; exact ⟨rfl, by decide⟩
  · rw [if_neg h0]
    have hlt := digs_lt (b := 10) (by omega) m
    refine ⟨?_, ?_⟩
    · show numL ((digs 10 m).reverse.map letter) = m
      rw [numL_val, dvs_letters _ hlt, val_digs (by omega)]
    · unfold digB
      rw [Bool.and_eq_true]
      refine ⟨?_, ?_⟩
      · rw [digs_pos (by omega) (by omega)]; simp
      · rw [List.all_eq_true]
        intro c hc
        obtain ⟨d, hd, rfl⟩ := List.mem_map.1 hc
        exact dig_letter (hlt d (List.mem_reverse.1 hd))
theorem dt_le {m k : Nat} (h : m < 10 ^ k) (hk : 1 ≤ k) : (decL m).length ≤ k := by
  unfold decL
  by_cases h0 : m = 0
  · rw [if_pos h0]; exact hk
  · rw [if_neg h0, List.length_map, List.length_reverse]
    have h1 := pow_le_of_digs (b := 10) (n := m) (by decide) (by omega)
    have h2 : 10 ^ ((digs 10 m).length - 1) < 10 ^ k := Nat.lt_of_le_of_lt h1 h
    have h3 := (Nat.pow_lt_pow_iff_right (a := 10) (by decide)).1 h2
    omega
end Go.Proofs.YthdpojkeceoiiaaGreatDoor
end

section
/- Package num: Text, Good of a valid number. Conditions: at most 100000 words. -/
open Go.RowKit
set_option maxRecDepth 100000
namespace Go.Proofs.YthdpojkeceoiiaaGreatDoor
/-- An integer's letters. -/
def decZ (z : Int) : List UInt8 := if z < 0 then 45 :: decL z.natAbs else decL z.natAbs
def TxR (W : World) (l : List UInt8) (e : Ending) (w' : World) : Prop := ∃ t : ByteArray, e = .returned (.string t) ∧ Hid (t.data.toList = l) ∧ Hid (Below W.heap.size W w')
section
variable {W : World} {b : Bool} {A : Option Addr} {n c : Nat} {z : Int}
theorem text_h {m : Nat} (h : Nm W A n c m) : Calls Tryz.prog 12 #[.agg #[.slice A n c]] W (TxR W (decL m)) := (Text_any h.out).mono fun _ _ h => h
theorem decL_len {W : World} {A : Option Addr} {n c m : Nat} (h : Nm W A n c m) : (decL m).length ≤ 1000001 := by
  have h1 : m < 10 ^ (10 * dl m + 1) := by
    have h2 : m < W32 ^ dl m := lt_pow_digs (b := W32) (by decide) m
    have h3 : W32 ^ dl m ≤ (10 ^ 10) ^ dl m := Nat.pow_le_pow_left (by decide) _
    rw [← Nat.pow_mul] at h3
    exact Nat.lt_of_lt_of_le h2 (Nat.le_trans h3 (Nat.pow_le_pow_right (by decide) (by omega)))
  have := dt_le h1 (by omega)
  have := h.dl
  omega
end
end Go.Proofs.YthdpojkeceoiiaaGreatDoor
end

section
/- The document's own numbers: Text. Conditions: at most 100000 fours of digits. -/
open Go.RowKit
set_option maxRecDepth 100000
namespace Go.Proofs.YthdpojkeceoiiaaGreatDoor
def DigR (w : World) (n least : Nat) (e : Ending) (w' : World) : Prop :=
  ∃ (t : ByteArray) (D : List Nat), e = .returned (.string t) ∧ Hid (t.data.toList = (D.map letter).reverse) ∧ Hid (∀ d ∈ D, d < 10) ∧ Hid (val 10 D = n) ∧ Hid (least ≤ D.length ∧ D.length ≤ 4) ∧ Hid (least < D.length → ∀ x, D.getLast? = some x → x ≠ 0) ∧ Hid (Below w.heap.size w w')
theorem one_conv (W : World) {d : Nat} (h : d < 10) : (convert 72 9 (.slice (some ⟨W.heap.size, 0, none⟩) 1 1)).run Tryz.prog (W.alloc (.cells #[.int .u8 (48 + (d : Int))] 5)) = .ok (.string ⟨#[letter d]⟩) (W.alloc (.cells #[.int .u8 (48 + (d : Int))] 5)) := by
  have h1 := run_convert_bytes_back (P := Tryz.prog) (W.alloc (.cells #[.int .u8 (48 + (d : Int))] 5)) 72 9 5 ⟨W.heap.size, 0, none⟩ 1 [letter d] Tryz.underlying72 Tryz.underlying5 Tryz.underlying9 (fun j hj => by
    have hj' : j = 0 := by simpa using hj
    subst hj'
    have e : (⟨W.heap.size, 0, none⟩ : Addr).add 0 = ⟨W.heap.size, 0, none⟩ := by unfold Addr.add; simp
    rw [e, (one_cell (heap_alloc_new W (.cells #[.int .u8 (48 + (d : Int))] 5))).1]
    simp [letter_toNat h])
  exact h1
theorem pow10_le {k v n : Nat} {V : Nat} (h : V + 10 ^ k * v = n) (hn : n ≤ 9999) (hv : 0 < v) : k ≤ 3 := by
  rcases Nat.lt_or_ge 3 k with h1 | h1
  · have h2 : 10 ^ 4 ≤ 10 ^ k := Nat.pow_le_pow_right (by decide) h1
    have h3 : 10 ^ k ≤ 10 ^ k * v := Nat.le_mul_of_pos_right _ hv
    omega
  · exact h1
set_option maxHeartbeats 2000000 in
theorem digits_any {n least : Nat} {w : World} (hn : n ≤ 9999) (hl : least ≤ 4) : Calls Tryz.prog 162 #[.int .i64 (n : Int), .int .i64 (least : Int)] w (DigR w n least) := by
  have CV := hide (fun (W : World) (d : Nat) (h : d < 10) => one_conv W h)
  have HN := hide hn
  go_enter Tryz.func162, Tryz.ntmps162
  go_wp2
  go_loopw [0, 5] (fun nv sv wr => ∃ (v : Nat) (D : List Nat) (s : ByteArray), nv = .int .i64 (v : Int) ∧ sv = .string s ∧ v ≤ 9999 ∧ D.length ≤ 4 ∧ Hid (s.size = D.length) ∧ Hid (s.data.toList = (D.map letter).reverse) ∧ Hid (∀ d ∈ D, d < 10) ∧ Hid (val 10 D + 10 ^ D.length * v = n) ∧ Hid (least < D.length → v = 0 → ∀ x, D.getLast? = some x → x ≠ 0) ∧ Hid (Below w.heap.size w wr))
    (fun nv sv _ => (intOf nv).toNat + (match sv with | .string s => 4 - s.size | _ => 0))
  case atStart => exact ⟨n, [], ⟨#[]⟩, rfl, rfl, HN.out, by simp, rfl, rfl, by intro d hd; simp at hd, by simp [Hid, val], by intro h; simp at h, Below.refl _ _⟩
  case round =>
    obtain ⟨v, D, s, rfl, rfl, hv9, hD, hsz, hsl, hD10, hval, hlast, hbel⟩ := hrel
    by_cases hgo : 0 < v ∨ D.length < least
    · have hD3 : D.length ≤ 3 := by
        rcases hgo with h | h
        · exact pow10_le hval.out HN.out h
        · omega
      obtain ⟨d, hd⟩ : ∃ d, d = v % 10 := ⟨_, rfl⟩
      obtain ⟨u, hu⟩ : ∃ u, u = v / 10 := ⟨_, rfl⟩
      have hd10 : d < 10 := by omega
      have hdb : d ≤ 9 := by omega
      have e1 : (v : Int) % 10 = (d : Int) := by omega
      have e2 : (v : Int).tmod 10 = (d : Int) := by rw [Int.tmod_eq_emod_of_nonneg (by omega)]; exact e1
      have e3 : IntKind.u8.wrap (48 + (d : Int)) = 48 + (d : Int) := by rw [IntKind.wrap_u8]; omega
      have f1 : (v : Int) / 10 = (u : Int) := by omega
      have f2 : (v : Int).tdiv 10 = (u : Int) := by rw [Int.tdiv_eq_ediv_of_nonneg (by omega)]; exact f1
      have hc := CV.out wr d hd10
      have hs1 : s.size ≤ 4 := by rw [hsz.out]; exact hD
      have g1 : ¬ 9223372036854775807 < 1 + s.size := by omega
      have g2 : 1 + s.size ≤ 9223372036854775807 := by omega
      have RN : Hid (v = 10 * u + d) := by unfold Hid; omega
      have HS : Hid (s.size < least ↔ D.length < least) := by unfold Hid; rw [hsz.out]
      have hub : u ≤ 9999 := by omega
      have hways : 0 < v ∨ (¬ 0 < v ∧ s.size < least) := by rw [hsz.out]; omega
      clear hgo hd hu
      have FIN : Hid (D.length + 1 ≤ 4 ∧ (∀ x ∈ D ++ [d], x < 10) ∧ val 10 (D ++ [d]) + 10 ^ (D ++ [d]).length * u = n ∧ (least < (D ++ [d]).length → u = 0 → ∀ x, (D ++ [d]).getLast? = some x → x ≠ 0)) := by
        refine ⟨by omega, ?_, ?_, ?_⟩
        · intro x hx
          rcases List.mem_append.1 hx with hx | hx
          · exact hD10.out x hx
          · simp at hx; omega
        · rw [val_snoc, List.length_append, List.length_singleton, Nat.pow_succ, ← hval.out, RN.out, Nat.mul_add, Nat.mul_assoc]; omega
        · intro h1 h2 x hx
          rw [List.getLast?_append] at hx
          simp at hx
          rw [List.length_append, List.length_singleton] at h1
          have h3 := RN.out
          have h4 : 0 < v := by
            rcases hways with h | ⟨h, h5⟩
            · exact h
            · have := HS.out.1 h5; omega
          omega
      rcases hways with hw | ⟨hw, hw2⟩
      all_goals
        go_wp2
        go_roundw
        case rel =>
          refine ⟨u, D ++ [d], _, rfl, rfl, hub, by rw [List.length_append, List.length_singleton]; exact FIN.out.1, ?_, ?_, FIN.out.2.1, FIN.out.2.2.1, FIN.out.2.2.2, hbel.out.alloc hbel.out.size _⟩
          · unfold Hid; rw [ByteArray.size_append, List.length_append, hsz.out, Nat.add_comm]; rfl
          · unfold Hid; rw [List.map_append, List.reverse_append, ← hsl.out]; simp
        case measure =>
          have h1 := RN.out
          have h2 := hsz.out
          have h3 : (⟨#[letter d]⟩ : ByteArray).size = 1 := rfl
          simp [intOf]
          omega
    · have hv0 : v = 0 := by omega
      subst hv0
      have hl1 : ¬ s.size < least := by rw [hsz.out]; omega
      have HL := hide (show least ≤ D.length by omega)
      clear hgo
      go_wp2
      go_ret
      exact ⟨s, D, rfl, hsl, hD10, by have := hval.out; unfold Hid; omega, ⟨HL.out, hD⟩, fun h => hlast.out h (by first | rfl | trivial), hbel⟩
/-- A four of digits ahead of others. -/
theorem digs_ahead {D : List Nat} {M : Nat} (hD : ∀ d ∈ D, d < 10) (hM : 0 < M) : digs 10 (val 10 D + 10 ^ D.length * M) = D ++ digs 10 M := by
  have h1 : val 10 (D ++ digs 10 M) = val 10 D + 10 ^ D.length * M := by rw [val_append, val_digs (by decide)]
  rw [← h1]
  refine digs_val (by decide) _ ?_ ?_
  · intro x hx
    rcases List.mem_append.1 hx with hx | hx
    · exact hD x hx
    · exact digs_lt (by decide) M x hx
  · intro x hx
    have hne : digs 10 M ≠ [] := fun e => by
      have := (digs_len_pos (b := 10) (n := M) (by decide)).1 (by rw [e]; rfl)
      omega
    rw [List.getLast?_append] at hx
    cases hg : (digs 10 M).getLast? with
    | none => exact absurd (List.getLast?_eq_none_iff.1 hg) hne
    | some y =>
      rw [hg] at hx
      simp at hx
      subst hx
      exact digs_last (by decide) M y hg
theorem decL_ahead {D : List Nat} {M : Nat} (hD : ∀ d ∈ D, d < 10) (hl : D.length = 4) (hM : 0 < M) : decL (val 10 D + D4 * M) = decL M ++ (D.map letter).reverse := by
  have e : D4 = 10 ^ D.length := by rw [hl]; rfl
  unfold decL
  rw [if_neg (by have : 0 < D4 * M := Nat.mul_pos (by decide) hM; omega), if_neg (by omega), e, digs_ahead hD hM, List.reverse_append, List.map_append, List.map_reverse, List.map_reverse]
  rfl
theorem decL_top {D : List Nat} {n : Nat} (hD : ∀ d ∈ D, d < 10) (hv : val 10 D = n) (h1 : 1 ≤ D.length) (hl : 1 < D.length → ∀ x, D.getLast? = some x → x ≠ 0) (hn : 0 < n) : decL n = (D.map letter).reverse := by
  have h2 : digs 10 n = D := by
    rw [← hv]
    refine digs_val (by decide) D hD fun x hx => ?_
    rcases Nat.lt_or_ge 1 D.length with h | h
    · exact hl h x hx
    · match D, h1, h with
      | [d], _, _ =>
        simp at hx
        subst hx
        simp [val] at hv
        omega
  unfold decL
  rw [if_neg (by omega), h2, List.map_reverse]
  rfl
theorem dec_four {m : Nat} : (decL m).length ≤ 4 * dq m + 1 := by
  have h1 : m < D4 ^ dq m := lt_pow_digs (b := D4) (by decide) m
  have h2 : D4 ^ dq m = 10 ^ (4 * dq m) := by rw [Nat.pow_mul]; rfl
  rw [h2] at h1
  exact dt_le (Nat.lt_of_lt_of_le h1 (Nat.pow_le_pow_right (by decide) (by omega))) (by omega)
set_option maxHeartbeats 2000000 in
theorem rText_any {A : Option Addr} {c m : Nat} {w : World} (h : RN w w.heap.size A c m) (hl : dq m ≤ 100000) : Calls Tryz.prog 154 #[.slice A (dq m) c] w (TxR w (decL m)) := by
  rcases Nat.eq_zero_or_pos m with h0 | h0
  · subst h0
    have hq : dq 0 = 0 := dq_zero
    clear h
    go_enter Tryz.func154, Tryz.ntmps154
    go_wp2
    refine bodyPost_ret (v := .string ⟨#[48]⟩) (by simp [results, Tryz.results154, go_sem]) rfl ⟨_, rfl, rfl, Below.refl _ _⟩
  · obtain ⟨k, hk⟩ : ∃ k, dq m = k + 1 := by
      rcases Nat.eq_zero_or_pos (dq m) with h1 | h1
      · have := (digs_len_pos (b := D4) (n := m) (by decide)).1 h1; omega
      · exact ⟨dq m - 1, by omega⟩
    have hkl : k < (digs D4 m).length := by have : (digs D4 m).length = dq m := rfl; omega
    obtain ⟨ad, rfl, hab, hcell⟩ := h.2.at_ hkl
    obtain ⟨x, hx⟩ : ∃ x, x = (digs D4 m)[k] := ⟨_, rfl⟩
    rw [← hx] at hcell
    unfold I64 at hcell
    have hx9 : x ≤ 9999 := by rw [hx]; have h4 : D4 = 10000 := rfl; have := good4_digs m _ (List.getElem_mem hkl); omega
    have hdrop : (digs D4 m).drop k = [x] := by
      rw [List.drop_eq_getElem_cons hkl, ← hx, List.drop_of_length_le (by have : (digs D4 m).length = dq m := rfl; omega)]
    have hx0 : 0 < x := by
      have h1 := digs_last (b := D4) (by decide) m x (by
        rw [List.getLast?_eq_getElem?, show (digs D4 m).length - 1 = k by have : (digs D4 m).length = dq m := rfl; omega, List.getElem?_eq_getElem hkl, ← hx])
      omega
    have HX := hide h
    have CT : Hid (∀ (W : World), Calls Tryz.prog 162 #[.int .i64 (x : Int), .int .i64 1] W (DigR W x 1)) := fun W => digits_any (n := x) (least := 1) (w := W) hx9 (by decide)
    have CF : Hid (∀ (W : World) (n : Nat), n ≤ 9999 → Calls Tryz.prog 162 #[.int .i64 (n : Int), .int .i64 4] W (DigR W n 4)) := fun W n hn => digits_any (n := n) (least := 4) (w := W) hn (by decide)
    have HDR := hide hdrop
    have HK := hide hk
    have HL := hide hl
    have hkb : k ≤ 100000 := by omega
    have hkd : k < dq m := by omega
    have e1 : (dq m : Int) - 1 = (k : Int) := by omega
    have e2 : (dq m : Int) - 2 = (k : Int) - 1 := by omega
    have e3 : ¬ dq m = 0 := by omega
    have HB0 : Hid (∀ j, (decL (val D4 ((digs D4 m).drop j))).length ≤ 400001) := fun j => Nat.le_trans dec_four (by
      have h1 : dq (val D4 ((digs D4 m).drop j)) ≤ ((digs D4 m).drop j).length := digs_len_le (by decide) _ (fun x hx => good4_digs m x (List.mem_of_mem_drop hx))
      rw [List.length_drop] at h1
      have : (digs D4 m).length = dq m := rfl
      omega)
    clear h hx hk hdrop hl hkl
    go_enter Tryz.func154, Tryz.ntmps154
    go_wp2_with (first | (go_at_call 162; (with_reducible refine (CT.out _).mono ?_); rintro e w1 ⟨t, D, rfl, ht, hD, hv, hlen, hlast, hbk⟩) | fail)
    go_loopw [3, 4] (fun sv iv wr => ∃ (j : Nat) (s : ByteArray), j ≤ k ∧ sv = .string s ∧ iv = .int .i64 ((j : Int) - 1) ∧ Hid (s.data.toList = decL (val D4 ((digs D4 m).drop j))) ∧ Hid (0 < val D4 ((digs D4 m).drop j)) ∧ Hid (Below w.heap.size w wr)) (fun _ iv _ => (intOf iv + 1).toNat)
    case atStart =>
      have hvx : val D4 ((digs D4 m).drop k) = x := by rw [HDR.out]; simp [val]
      exact ⟨k, t, Nat.le_refl _, rfl, rfl, by unfold Hid; rw [hvx, ht.out, decL_top hD.out hv.out hlen.out.1 hlast.out hx0], by unfold Hid; rw [hvx]; exact hx0, hbk⟩
    case round =>
      obtain ⟨j, s, hj, rfl, rfl, hs, hpos, hbel⟩ := hrel
      by_cases hj0 : j = 0
      · subst hj0
        have HS : Hid (s.data.toList = decL m) := by
          have h1 := hs.out
          rwa [List.drop_zero, val_digs4] at h1
        go_wp2
        go_ret
        exact ⟨s, rfl, HS, hbel⟩
      · obtain ⟨i, rfl⟩ : ∃ i, j = i + 1 := ⟨j - 1, by omega⟩
        have hi : i < (digs D4 m).length := by have : (digs D4 m).length = dq m := rfl; omega
        obtain ⟨ad2, e, hab2, hcell2⟩ := ((HX.out.below hbel.out).2).at_ hi
        injection e with e
        subst e
        obtain ⟨y, hy⟩ : ∃ y, y = (digs D4 m)[i] := ⟨_, rfl⟩
        rw [← hy] at hcell2
        unfold I64 at hcell2
        have hy9 : y ≤ 9999 := by rw [hy]; have h4 : D4 = 10000 := rfl; have := good4_digs m _ (List.getElem_mem hi); omega
        have HDI : Hid ((digs D4 m).drop i = y :: (digs D4 m).drop (i + 1)) := by unfold Hid; rw [List.drop_eq_getElem_cons hi, ← hy]
        have hid : i < dq m := hi
        have hss : s.size ≤ 400001 := by rw [size_list, hs.out]; exact HB0.out _
        clear hy hi hj0
        go_wp2_with (first | (go_at_call 162; (with_reducible refine (CF.out _ y hy9).mono ?_); rintro e w2 ⟨t2, D2, rfl, ht2, hD2, hv2, hlen2, hlast2, hbk2⟩; have hs2 : t2.size ≤ 4 := (by rw [size_list, ht2.out]; simp; exact hlen2.out.2); have g1 : ¬ 9223372036854775807 < s.size + t2.size := (by omega); have g2 : s.size + t2.size ≤ 9223372036854775807 := (by omega)) | fail)
        go_roundw
        case rel =>
          have hvv : val D4 ((digs D4 m).drop i) = val 10 D2 + D4 * val D4 ((digs D4 m).drop (i + 1)) := by rw [HDI.out, hv2.out]; rfl
          refine ⟨i, _, by omega, rfl, rfl, ?_, ?_, hbel.out.trans (hbk2.out.mono hbel.out.size)⟩
          · unfold Hid
            rw [hvv, decL_ahead hD2.out (by have := hlen2.out; omega) hpos.out, ← hs.out, ← ht2.out]
            simp
          · unfold Hid
            rw [hvv]
            have : 0 < D4 * val D4 ((digs D4 m).drop (i + 1)) := Nat.mul_pos (by decide) hpos.out
            omega
        case measure => simp [intOf]
end Go.Proofs.YthdpojkeceoiiaaGreatDoor
end

section
/- The document's own Num, power, has. Conditions: a number below 16; lists that fit. -/
open Go.RowKit
set_option maxRecDepth 100000
namespace Go.Proofs.YthdpojkeceoiiaaGreatDoor
theorem decL_num : ∀ n, n < 16 → decL n = (numB n).data.toList := by decide +kernel
theorem dq_16 {n : Nat} (h : n < 16) : dq n ≤ 5 := dq_u64 (by omega)
theorem rNum_any {n : Nat} (h : n < 16) (w : World) : Calls Tryz.prog 138 #[.int .i64 (n : Int)] w (StrR w (numB n)) := by
  have CS : Hid (∀ W, Calls Tryz.prog 155 #[.int .u64 (n : Int)] W (RefPost W n)) := fun W => Small_any (by omega)
  have CT : Hid (∀ {W : World} {A : Option Addr} {c : Nat}, Hid (RN W W.heap.size A c n) → Calls Tryz.prog 154 #[.slice A (dq n) c] W (StrR W (numB n))) := fun h9 => (rText_any h9.out (by have := dq_16 h; omega)).mono fun e w' ⟨t, he, ht, hb⟩ => ⟨by rw [he]; exact congrArg (fun t => Ending.returned (Value.string t)) (ByteArray.ext (Array.ext' (ht.out.trans (decL_num n h)))), hb⟩
  have hw : IntKind.u64.wrap (n : Int) = (n : Int) := by rw [IntKind.wrap_u64]; omega
  have HB := Bel.refl w
  obtain ⟨t, ht⟩ : ∃ t, t = numB n := ⟨_, rfl⟩
  rw [← ht] at CT ⊢
  clear ht
  go_enter Tryz.func138, Tryz.ntmps138
  go_wp2_with (first | (go_at_call 155; (with_reducible refine (CS.out _).mono ?_); rintro e w1 ⟨A, c, rfl, hn, hbk⟩; (replace HB := HB.up hbk)) | (go_at_call 154; (with_reducible refine (CT.out hn).mono ?_); rintro e w2 ⟨rfl, hb⟩; (replace HB := HB.up hb)) | fail)
  go_ret
  exact ⟨rfl, HB.hid⟩
def RetI (W : World) (v : Int) (e : Ending) (w' : World) : Prop := e = .returned (.int .i64 v) ∧ Bel W w'
set_option maxHeartbeats 2000000 in
theorem power_any (s : ByteArray) (w : World) : Calls Tryz.prog 136 #[.string s] w (RetI w (powOf s : Int)) := by
  by_cases h1 : s = sqB
  · have HV : Hid (powOf s = 2) := by rw [h1]; exact powOf_pw 2 (by decide) (by decide)
    subst h1
    have d1 : (sqB.toList == [115, 113, 117, 97, 114, 101]) = true := by rw [Lib.toList_data]; rfl
    go_enter Tryz.func136, Tryz.ntmps136
    go_wp2
    go_ret
    exact ⟨by rw [HV.out]; rfl, Bel.refl _⟩
  have d1 : (s.toList == [115, 113, 117, 97, 114, 101]) = false := str_lit h1 rfl
  by_cases h2 : s = cuB
  · have HV : Hid (powOf s = 3) := by rw [h2]; exact powOf_pw 3 (by decide) (by decide)
    have d2 : (s.toList == [99, 117, 98, 105, 99]) = true := by rw [h2, Lib.toList_data]; rfl
    clear h1 h2
    go_enter Tryz.func136, Tryz.ntmps136
    go_wp2
    go_ret
    exact ⟨by rw [HV.out]; rfl, Bel.refl _⟩
  have d2 : (s.toList == [99, 117, 98, 105, 99]) = false := str_lit h2 rfl
  have HM0 : Hid (∀ m, m < 4 → 2 ≤ m → s ≠ pwB m) := fun m g1 g2 => by
    have : m = 2 ∨ m = 3 := by omega
    rcases this with rfl | rfl
    · exact h1
    · exact h2
  clear h1 h2
  go_enter Tryz.func136, Tryz.ntmps136
  go_wp2
  go_loopw [3] (fun iv wr => ∃ k : Nat, 4 ≤ k ∧ k ≤ 16 ∧ iv = .int .i64 (k : Int) ∧ Hid (Bel w wr) ∧ Hid (∀ m, m < k → 2 ≤ m → s ≠ pwB m)) (fun iv _ => 16 - (intOf iv).toNat)
  case atStart => exact ⟨4, by omega, by omega, rfl, Bel.refl w, HM0⟩
  case round =>
    obtain ⟨k, hk2, hk, rfl, HB, HM⟩ := hrel
    by_cases hlt : k < 16
    · have d3 : decide ((k : Int) ≤ 15) = true := decide_eq_true (by omega)
      obtain ⟨t, ht⟩ : ∃ t, t = numB k := ⟨_, rfl⟩
      have CQ : Hid (∀ W : World, Calls Tryz.prog 138 #[.int .i64 (k : Int)] W (StrR W t)) := fun W => ht ▸ rNum_any hlt W
      have hs : t.size ≤ 2 := by rw [ht]; exact numB_size k
      have HT : Hid (pwB k = powB ++ t) := by unfold Hid pwB; rw [if_neg (by omega), if_neg (by omega), ht]
      have HP : Hid (powOf (pwB k) = k) := powOf_pw k hlt (by omega)
      clear ht
      by_cases he : s = powB ++ t
      · have HE : Hid (powOf s = k) := by unfold Hid; rw [he, ← HT.out]; exact HP.out
        have e2 : (s.toList == ((⟨#[112, 111, 119]⟩ : ByteArray) ++ t).toList) = true := by rw [he]; exact beq_self_eq_true _
        clear he HP HT
        go_wp2_with (first | (go_at_call 138; (with_reducible refine (CQ.out _).mono ?_); rintro e w1 ⟨rfl, hb⟩; (replace HB := HB.out.up hb)) | fail)
        go_ret
        exact ⟨by rw [HE.out]; rfl, HB⟩
      · have e2 : (s.toList == ((⟨#[112, 111, 119]⟩ : ByteArray) ++ t).toList) = false := str_ne he
        have HE := khide he
        clear he
        go_wp2_with (first | (go_at_call 138; (with_reducible refine (CQ.out _).mono ?_); rintro e w1 ⟨rfl, hb⟩; (replace HB := HB.out.up hb)) | fail)
        go_roundw
        case rel =>
          refine ⟨k + 1, by omega, by omega, by go_num, HB, fun m g1 g2 => ?_⟩
          rcases Nat.lt_or_ge m k with h3 | h3
          · exact HM.out m h3 g2
          · obtain rfl : m = k := by omega
            rw [HT.out]; exact HE.out
        case measure => simp [intOf]; omega
    · obtain rfl : k = 16 := by omega
      go_wp2
      go_ret
      exact ⟨by rw [powOf_no HM.out]; rfl, HB.out⟩
theorem hasB_take {l : List ByteArray} {x : ByteArray} {k : Nat} (h : k < l.length) : hasB (l.take (k + 1)) x = (hasB (l.take k) x || decide (l[k] = x)) := by
  rw [List.take_succ_eq_append_getElem h, hasB_snoc]
theorem hasB_hit {l : List ByteArray} {x : ByteArray} {k : Nat} (h : k < l.length) (he : l[k] = x) : hasB l x = true := hasB_iff.2 (he ▸ List.getElem_mem h)
theorem has_any {A : Option Addr} {n c : Nat} {xs : List ByteArray} {x : ByteArray} {w : World} (h : Ss w A xs) (hn : n = xs.length) (hl : n ≤ 2000000) : Calls Tryz.prog 137 #[.slice A n c, .string x] w fun e w' => e = .returned (.bool (hasB xs x)) ∧ w = w' := by
  have HN := khide hn
  clear hn
  go_enter Tryz.func137, Tryz.ntmps137
  go_wp2
  go_loop [5] (fun iv => ∃ k : Nat, k ≤ n ∧ iv = .int .i64 (k : Int) ∧ Hid (hasB (xs.take k) x = false)) (fun iv => n - (intOf iv).toNat)
  case atStart => exact ⟨0, Nat.zero_le _, rfl, rfl⟩
  case round =>
    obtain ⟨k, hk, rfl, HH⟩ := hrel
    by_cases hlt : k < n
    · have hx : k < xs.length := by rw [← HN.out]; exact hlt
      obtain ⟨ad, rfl, had, hcell⟩ := h.out.at_ hx
      obtain ⟨y, hy⟩ : ∃ y, y = xs[k] := ⟨_, rfl⟩
      rw [← hy] at hcell
      by_cases he : y = x
      · have HV : Hid (hasB xs x = true) := hasB_hit hx (by rw [← hy]; exact he)
        have e2 : (y.toList == x.toList) = true := by rw [he]; simp
        clear he hy hx
        go_wp2
        go_ret
        exact ⟨ybool HV.out.symm, rfl⟩
      · have e2 : (y.toList == x.toList) = false := str_ne he
        have HV : Hid (hasB (xs.take (k + 1)) x = false) := by unfold Hid; rw [hasB_take hx, HH.out, ← hy, decide_eq_false he]; rfl
        clear he hy hx
        go_wp2
        go_round
        case rel => exact ⟨k + 1, by omega, by go_num, HV⟩
        case measure => simp [intOf]; omega
    · obtain rfl : k = n := by omega
      go_wp2
      go_ret
      refine ⟨ybool ?_, rfl⟩
      have h3 := HH.out
      rw [List.take_of_length_le (by rw [← HN.out]; exact Nat.le_refl _)] at h3
      exact h3.symm
end Go.Proofs.YthdpojkeceoiiaaGreatDoor
end

section
/- The document's own May, row, GoodKnown. Conditions: texts and lists that fit. -/
open Go.RowKit
set_option maxRecDepth 100000
namespace Go.Proofs.YthdpojkeceoiiaaGreatDoor
theorem figW_dig (l : List UInt8) : figW l = digitsB l := rfl
theorem kpre3 (s : ByteArray) (h : 3 ≤ s.size) : ((s.extract 0 3).toList == [112, 111, 119]) = Lib.hasPrefix s.data.toList powB.data.toList := by
  rw [Lib.toList_data, ByteArray.data_extract, Array.toList_extract]
  simp only [List.extract, List.drop_zero, Nat.sub_zero]
  rw [Bool.eq_iff_iff, beq_iff_eq]
  unfold Lib.hasPrefix
  rw [List.isPrefixOf_iff_prefix, List.prefix_iff_eq_take]
  exact ⟨fun h => h.symm, fun h => h.symm⟩
theorem mayB_bad {s : ByteArray} (h : goodW s.data.toList = false) : mayB s = false := by unfold mayB; rw [h]; rfl
theorem mayB_lit {s : ByteArray} (h : s = perB ∨ s = andB ∨ s = sqB ∨ s = cuB) : mayB s = false := by unfold mayB; rw [resB_lit h]; simp
theorem lit_good {s : ByteArray} (h : s = perB ∨ s = andB ∨ s = sqB ∨ s = cuB) : goodW s.data.toList = true := by
  rcases h with rfl | rfl | rfl | rfl <;> decide +kernel
theorem rest3 (s : ByteArray) : (s.extract 3 s.size).data.toList = s.data.toList.drop 3 := by
  rw [ByteArray.data_extract, Array.toList_extract]
  simp only [List.extract]
  rw [List.take_of_length_le]
  rw [List.length_drop, Lib.size_eq]; omega
end Go.Proofs.YthdpojkeceoiiaaGreatDoor
end

section
/- The document's own row, GoodKnown; its Less; the law's own atomOf, knownOf. Conditions: texts and lists that fit. -/
open Go.RowKit
set_option maxRecDepth 100000
namespace Go.Proofs.YthdpojkeceoiiaaGreatDoor
theorem Ss.part {W : World} {A : Option Addr} {xs : List ByteArray} (h : Ss W A xs) (k : Nat) : Ss W A (xs.take k) := fun h0 => by
  rw [List.length_take] at h0
  obtain ⟨ad, e, hb, hc⟩ := h.out (by omega)
  refine ⟨ad, e, hb, fun j x hj => hc j x ?_⟩
  rw [List.getElem?_take] at hj
  split at hj
  · exact hj
  · cases hj
def BoolQ (W : World) (b : Bool) (e : Ending) (w' : World) : Prop := e = .returned (.bool b) ∧ ∃ n, w' = W.drewN n
theorem boolQ_bel {W : World} {b : Bool} {e : Ending} {w' : World} (h : BoolQ W b e w') : RetB W b e w' := by
  obtain ⟨he, n, hn⟩ := h
  exact ⟨he, by rw [hn]; exact ybelow_drewN (Below.refl _ _) n⟩
def RetA (W : World) (p n : ByteArray) (k : Int) (e : Ending) (w' : World) : Prop := e = .returned (.agg #[.string p, .string n, .int .i64 k]) ∧ Bel W w'
end Go.Proofs.YthdpojkeceoiiaaGreatDoor
end

section
/- The document's own ShowAtom. Conditions: texts that fit. -/
open Go.RowKit
set_option maxRecDepth 100000
namespace Go.Proofs.YthdpojkeceoiiaaGreatDoor
theorem sq_join (u : ByteArray) : joinS [sqB, u] = (⟨#[115, 113, 117, 97, 114, 101, 45]⟩ : ByteArray) ++ u := by
  rw [join_two]; exact congrArg (· ++ u) (by decide +kernel)
theorem cu_join (u : ByteArray) : joinS [cuB, u] = (⟨#[99, 117, 98, 105, 99, 45]⟩ : ByteArray) ++ u := by
  rw [join_two]; exact congrArg (· ++ u) (by decide +kernel)
set_option maxHeartbeats 4000000 in
theorem rshow_any {p n : ByteArray} {k : Int} (hs : p.size ≤ 2000000 ∧ n.size ≤ 2000000) (w : World) : Calls Tryz.prog 99 #[.agg #[.string p, .string n, .int .i64 k]] w (StrR w (showB p n k)) := by
  have hs1 : ¬ 9223372036854775807 < p.size + n.size := by omega
  have hs2 : p.size + n.size ≤ 9223372036854775807 := by omega
  obtain ⟨u, hu⟩ : ∃ u, u = p ++ n := ⟨_, rfl⟩
  have huz : u.size ≤ 4000000 := by rw [hu, ByteArray.size_append]; omega
  obtain ⟨W1, hW1⟩ : ∃ X, X = w.alloc (.cells #[.string p, .string n, .int .i64 k] 125) := ⟨_, rfl⟩
  have HA : At W1 w.heap.size [.string p, .string n, .int .i64 k] := by rw [hW1]; exact at_new0 _ _ _
  have HB : Bel w W1 := by rw [hW1]; exact (Bel.refl w).al _
  have HW := khide hW1
  have ha_0 := HA.c0; have ha_1 := HA.c1; have ha_2 := HA.c2; have ha_l := HA.lt
  by_cases h1 : k < 1
  · have d1 : decide (k < 1) = true := decide_eq_true h1
    have HV : Hid (showB p n k = eB) := if_pos (.inl h1)
    clear h1 hW1 hu huz
    go_enter Tryz.func99, Tryz.ntmps99
    go_upto_region 1 with fail
    rw [← HW.out]
    go_wp2
    go_ret
    exact ⟨by rw [HV.out]; rfl, HB⟩
  by_cases h2 : 15 < k
  · have d1 : decide (k < 1) = false := decide_eq_false h1
    have d2 : decide (15 < k) = true := decide_eq_true h2
    have HV : Hid (showB p n k = eB) := if_pos (.inr h2)
    clear h1 h2 hW1 hu huz
    go_enter Tryz.func99, Tryz.ntmps99
    go_upto_region 1 with fail
    rw [← HW.out]
    go_wp2
    go_ret
    exact ⟨by rw [HV.out]; rfl, HB⟩
  have d1 : decide (k < 1) = false := decide_eq_false h1
  have d2 : decide (15 < k) = false := decide_eq_false h2
  by_cases h3 : k = 1
  · have d3 : (k == 1) = true := by rw [h3]; rfl
    have HV : Hid (showB p n k = p ++ n) := by unfold Hid showB; rw [if_neg (by omega), if_pos h3]
    clear h1 h2 h3 hW1 hu huz
    go_enter Tryz.func99, Tryz.ntmps99
    go_upto_region 1 with fail
    rw [← HW.out]
    go_wp2
    go_ret
    exact ⟨by rw [HV.out]; rfl, HB⟩
  have d3 : (k == 1) = false := beq_eq_false_iff_ne.2 h3
  obtain ⟨j, rfl⟩ : ∃ j : Nat, k = (j : Int) := ⟨k.toNat, by omega⟩
  have HV0 : showB p n (j : Int) = joinS [pwB j, u] := by
    unfold showB
    rw [if_neg (by omega), if_neg h3, Int.toNat_natCast, hu]
  have e1 : (7 : Nat) + u.size ≤ 9223372036854775807 := by omega
  have e2 : (6 : Nat) + u.size ≤ 9223372036854775807 := by omega
  by_cases h4 : j = 2
  · have d4 : ((j : Int) == 2) = true := by rw [h4]; rfl
    have HV : Hid (showB p n (j : Int) = (⟨#[115, 113, 117, 97, 114, 101, 45]⟩ : ByteArray) ++ u) := by unfold Hid; rw [HV0, ← sq_join, h4]; rfl
    have huv := khide hu
    clear h1 h2 h3 h4 hW1 HV0
    go_enter Tryz.func99, Tryz.ntmps99
    go_upto_region 1 with fail
    rw [← HW.out]
    go_upto_region 4 with fail
    rw [← hu]
    clear hu
    go_wp2
    go_ret
    exact ⟨by rw [HV.out]; rfl, HB⟩
  have d4 : ((j : Int) == 2) = false := by rw [beq_eq_false_iff_ne]; omega
  by_cases h5 : j = 3
  · have d5 : ((j : Int) == 3) = true := by rw [h5]; rfl
    have HV : Hid (showB p n (j : Int) = (⟨#[99, 117, 98, 105, 99, 45]⟩ : ByteArray) ++ u) := by unfold Hid; rw [HV0, ← cu_join, h5]; rfl
    have huv := khide hu
    clear h1 h2 h3 h4 h5 hW1 HV0
    go_enter Tryz.func99, Tryz.ntmps99
    go_upto_region 1 with fail
    rw [← HW.out]
    go_upto_region 4 with fail
    rw [← hu]
    clear hu
    go_wp2
    go_ret
    exact ⟨by rw [HV.out]; rfl, HB⟩
  have d5 : ((j : Int) == 3) = false := by rw [beq_eq_false_iff_ne]; omega
  have hj16 : j < 16 := by omega
  obtain ⟨t, ht⟩ : ∃ t, numB j = t := ⟨_, rfl⟩
  have CN : Hid (∀ W : World, Calls Tryz.prog 138 #[.int .i64 (j : Int)] W (StrR W t)) := fun W => ht ▸ rNum_any hj16 W
  have htz : t.size ≤ 2 := by rw [← ht]; exact numB_size j
  have HV : Hid (showB p n (j : Int) = ((⟨#[112, 111, 119]⟩ : ByteArray) ++ t) ++ (⟨#[45]⟩ : ByteArray) ++ u) := by
    unfold Hid; rw [HV0, join_two]
    unfold pwB
    rw [if_neg h4, if_neg h5, ht]; rfl
  have e3 : (3 : Nat) + t.size ≤ 9223372036854775807 := by omega
  have e4 : (3 : Nat) + t.size + 1 ≤ 9223372036854775807 := by omega
  have e5 : (3 : Nat) + t.size + 1 + u.size ≤ 9223372036854775807 := by omega
  have huv := khide hu
  clear h1 h2 h3 h4 h5 hW1 HV0 ht hj16
  go_enter Tryz.func99, Tryz.ntmps99
  go_upto_region 1 with fail
  rw [← HW.out]
  go_upto_region 4 with fail
  rw [← hu]
  clear hu
  go_wp2_with (first | (go_at_call 138; (with_reducible refine (CN.out _).mono ?_); rintro e w1 ⟨rfl, hb⟩; (replace HB := HB.up hb)) | fail)
  go_ret
  exact ⟨by rw [HV.out]; rfl, HB⟩
end Go.Proofs.YthdpojkeceoiiaaGreatDoor
end
