/- Several texts in one, each with its own sentence and conditions. -/
import Derived.Test.YtdjngaejdmlekaaDoorZd
import Derived.Test.YtdjngaejdmlekaaDoorGNyc3
import Derived.Test.YtdjngaejdmlekaaDoorGNyc4
import Derived.Test.YtdjngaejdmlekaaDoorGNyc5
import Derived.Laws.BytesArg
import Derived.Deep.LoopGhost
section
/- Package num: Cmp. Conditions: at most 100000 words. -/
open Go.RowKit
set_option maxRecDepth 100000
namespace Go.Proofs.YtdjngaejdmlekaaDoor
def cmpZ (a b : Int) : Int := if a < b then -1 else if b < a then 1 else 0
theorem al2 (W : World) (o1 o2 : Obj) : Below W.heap.size W ((W.alloc o1).alloc o2) := ((Below.refl _ _).alloc (Nat.le_refl _) _).alloc (by simp) _
section
variable {W : World} {b b' : Bool} {A A' : Option Addr} {n n' c c' : Nat} {z z' : Int}
set_option maxHeartbeats 4000000 in
theorem zcmp_h {v : Int} (h : ZA W b A n c z) (h' : ZA W b' A' n' c' z') (hv : cmpZ z z' = v) : Calls Tryd.prog 40 #[.agg #[.bool b, .slice A n c], .agg #[.bool b', .slice A' n' c']] W (IntPost W v) := by
  obtain ⟨s, hs⟩ : ∃ s, z.sign = s := ⟨_, rfl⟩
  obtain ⟨s', hs'⟩ : ∃ s, z'.sign = s := ⟨_, rfl⟩
  have hsb : -1 ≤ s ∧ s ≤ 1 ∧ (s < 0 ↔ z < 0) ∧ (0 < s ↔ 0 < z) := by
    subst hs
    rcases Int.lt_trichotomy z 0 with h | h | h
    · rw [Int.sign_eq_neg_one_of_neg h]; omega
    · subst h; decide
    · rw [Int.sign_eq_one_of_pos h]; omega
  have hsb' : -1 ≤ s' ∧ s' ≤ 1 ∧ (s' < 0 ↔ z' < 0) ∧ (0 < s' ↔ 0 < z') := by
    subst hs'
    rcases Int.lt_trichotomy z' 0 with h | h | h
    · rw [Int.sign_eq_neg_one_of_neg h]; omega
    · subst h; decide
    · rw [Int.sign_eq_one_of_pos h]; omega
  have CA : Hid (∀ W', Below W.heap.size W W' → Calls Tryd.prog 39 #[.agg #[.bool b, .slice A n c]] W' (IntPost W' s)) := fun W' hb => sign_h (h.up hb) hs
  have CB : Hid (∀ W', Below W.heap.size W W' → Calls Tryd.prog 39 #[.agg #[.bool b', .slice A' n' c']] W' (IntPost W' s')) := fun W' hb => sign_h (h'.up hb) hs'
  have CC : Hid (∀ W', Below W.heap.size W W' → Calls Tryd.prog 23 #[.agg #[.slice A n c], .agg #[.slice A' n' c']] W' (IntPost W' (cmpI z.natAbs z'.natAbs))) := fun W' hb => cmp_h (h.up hb).1 (h'.up hb).1 rfl
  have CD : Hid (∀ W', Below W.heap.size W W' → Calls Tryd.prog 23 #[.agg #[.slice A' n' c'], .agg #[.slice A n c]] W' (IntPost W' (cmpI z'.natAbs z.natAbs))) := fun W' hb => cmp_h (h'.up hb).1 (h.up hb).1 rfl
  have ways : (s < s' ∧ v = -1) ∨ (¬ s < s' ∧ s' < s ∧ v = 1) ∨ (¬ s < s' ∧ ¬ s' < s ∧ s < 0 ∧ v = cmpI z'.natAbs z.natAbs) ∨ (¬ s < s' ∧ ¬ s' < s ∧ ¬ s < 0 ∧ v = cmpI z.natAbs z'.natAbs) := by
    unfold cmpZ at hv
    unfold cmpI
    by_cases h1 : s < s'
    · left; rw [if_pos (by omega)] at hv; exact ⟨h1, hv.symm⟩
    · by_cases h2 : s' < s
      · right; left; rw [if_neg (by omega), if_pos (by omega)] at hv; exact ⟨h1, h2, hv.symm⟩
      · by_cases h3 : s < 0
        · right; right; left
          refine ⟨h1, h2, h3, ?_⟩
          rw [← hv]
          split <;> split <;> (try split) <;> omega
        · right; right; right
          refine ⟨h1, h2, h3, ?_⟩
          rw [← hv]
          split <;> split <;> (try split) <;> omega
  clear h h' hv hs hs' hsb hsb'
  rcases ways with ⟨h1, hv⟩ | ⟨h1, h2, hv⟩ | ⟨h1, h2, h3, hv⟩ | ⟨h1, h2, h3, hv⟩
  all_goals
    have HV := hide hv
    clear hv
    go_enter Tryd.func40, Tryd.ntmps40
    go_wp2_with fail
    obtain ⟨W0, hW0⟩ : ∃ W0, W0 = ((W.alloc (.cells #[.bool b, .slice A n c] 54)).alloc (.cells #[.bool b', .slice A' n' c'] 54)) := ⟨_, rfl⟩
    rw [← hW0]
    have HA : Hid (Zcell W0.drew W.heap.size b A n c) := by rw [hW0]; exact Zcell.dr ((zc_new _ _ _ _ _ _).al _)
    have HA' : Hid (Zcell W0.drew (W.heap.size + 1) b' A' n' c') := by rw [hW0]; exact Zcell.dr (zc_new1 _ _ _ _ _ _ _)
    have HW : Hid (Below W.heap.size W W0.drew) := by rw [hW0]; exact Below.drew (al2 _ _ _)
    clear hW0
    go_region_held3 (fun w' => w'.cell? ⟨W.heap.size, 0, none⟩ = some (.bool b) ∧ w'.cell? ⟨W.heap.size, 1, none⟩ = some (.slice A n c) ∧ w'.cell? ⟨W.heap.size + 1, 0, none⟩ = some (.bool b') ∧ w'.cell? ⟨W.heap.size + 1, 1, none⟩ = some (.slice A' n' c')) (first | exact ⟨HA.out.c0, HA.out.c1, HA'.out.c0, HA'.out.c1⟩) (first | (go_at_call 39; (with_reducible refine (CA.out _ HW.out).mono ?_); rintro e w1 ⟨rfl, hbk⟩; replace HA := hide (HA.out.up hbk); replace HA' := hide (HA'.out.up hbk); replace HW := chain HW hbk.out) | (go_at_call 39; (with_reducible refine (CB.out _ HW.out).mono ?_); rintro e w2 ⟨rfl, hbk⟩; replace HA := hide (HA.out.up hbk); replace HA' := hide (HA'.out.up hbk); replace HW := chain HW hbk.out) | fail)
  · go_wp2_with fail
    go_ret
    exact ⟨by rw [HV.out]; rfl, HW.out⟩
  · go_wp2_with fail
    replace HA := hide HA.out.dr
    replace HA' := hide HA'.out.dr
    replace HW := hide (Below.drew HW.out)
    go_region_held3 (fun w' => w'.cell? ⟨W.heap.size, 0, none⟩ = some (.bool b) ∧ w'.cell? ⟨W.heap.size, 1, none⟩ = some (.slice A n c) ∧ w'.cell? ⟨W.heap.size + 1, 0, none⟩ = some (.bool b') ∧ w'.cell? ⟨W.heap.size + 1, 1, none⟩ = some (.slice A' n' c')) (first | exact ⟨HA.out.c0, HA.out.c1, HA'.out.c0, HA'.out.c1⟩) (first | (go_at_call 39; (with_reducible refine (CA.out _ HW.out).mono ?_); rintro e w1 ⟨rfl, hbk⟩; replace HA := hide (HA.out.up hbk); replace HA' := hide (HA'.out.up hbk); replace HW := chain HW hbk.out) | (go_at_call 39; (with_reducible refine (CB.out _ HW.out).mono ?_); rintro e w2 ⟨rfl, hbk⟩; replace HA := hide (HA.out.up hbk); replace HA' := hide (HA'.out.up hbk); replace HW := chain HW hbk.out) | fail)
    go_wp2_with fail
    go_ret
    exact ⟨by rw [HV.out]; rfl, HW.out⟩
  · go_wp2_with fail
    replace HA := hide HA.out.dr
    replace HA' := hide HA'.out.dr
    replace HW := hide (Below.drew HW.out)
    go_region_held3 (fun w' => w'.cell? ⟨W.heap.size, 0, none⟩ = some (.bool b) ∧ w'.cell? ⟨W.heap.size, 1, none⟩ = some (.slice A n c) ∧ w'.cell? ⟨W.heap.size + 1, 0, none⟩ = some (.bool b') ∧ w'.cell? ⟨W.heap.size + 1, 1, none⟩ = some (.slice A' n' c')) (first | exact ⟨HA.out.c0, HA.out.c1, HA'.out.c0, HA'.out.c1⟩) (first | (go_at_call 39; (with_reducible refine (CA.out _ HW.out).mono ?_); rintro e w1 ⟨rfl, hbk⟩; replace HA := hide (HA.out.up hbk); replace HA' := hide (HA'.out.up hbk); replace HW := chain HW hbk.out) | (go_at_call 39; (with_reducible refine (CB.out _ HW.out).mono ?_); rintro e w2 ⟨rfl, hbk⟩; replace HA := hide (HA.out.up hbk); replace HA' := hide (HA'.out.up hbk); replace HW := chain HW hbk.out) | fail)
    have a0 := HA.out.c0
    have a1 := HA.out.c1
    have x0 := HA'.out.c0
    have x1 := HA'.out.c1
    go_wp2_with (first | (go_at_call 39; (with_reducible refine (CA.out _ HW.out).mono ?_); rintro e w3 ⟨rfl, hbk⟩; replace HA := hide (HA.out.up hbk); replace HA' := hide (HA'.out.up hbk); replace HW := chain HW hbk.out; clear a0 a1 x0 x1; have a0 := HA.out.c0; have a1 := HA.out.c1; have x0 := HA'.out.c0; have x1 := HA'.out.c1) | (go_at_call 23; (with_reducible refine (CD.out _ HW.out).mono ?_); rintro e w4 ⟨rfl, hbk⟩) | fail)
    go_ret
    exact ⟨by rw [HV.out]; rfl, chain HW hbk.out⟩
  · go_wp2_with fail
    replace HA := hide HA.out.dr
    replace HA' := hide HA'.out.dr
    replace HW := hide (Below.drew HW.out)
    go_region_held3 (fun w' => w'.cell? ⟨W.heap.size, 0, none⟩ = some (.bool b) ∧ w'.cell? ⟨W.heap.size, 1, none⟩ = some (.slice A n c) ∧ w'.cell? ⟨W.heap.size + 1, 0, none⟩ = some (.bool b') ∧ w'.cell? ⟨W.heap.size + 1, 1, none⟩ = some (.slice A' n' c')) (first | exact ⟨HA.out.c0, HA.out.c1, HA'.out.c0, HA'.out.c1⟩) (first | (go_at_call 39; (with_reducible refine (CA.out _ HW.out).mono ?_); rintro e w1 ⟨rfl, hbk⟩; replace HA := hide (HA.out.up hbk); replace HA' := hide (HA'.out.up hbk); replace HW := chain HW hbk.out) | (go_at_call 39; (with_reducible refine (CB.out _ HW.out).mono ?_); rintro e w2 ⟨rfl, hbk⟩; replace HA := hide (HA.out.up hbk); replace HA' := hide (HA'.out.up hbk); replace HW := chain HW hbk.out) | fail)
    have a0 := HA.out.c0
    have a1 := HA.out.c1
    have x0 := HA'.out.c0
    have x1 := HA'.out.c1
    go_wp2_with (first | (go_at_call 39; (with_reducible refine (CA.out _ HW.out).mono ?_); rintro e w3 ⟨rfl, hbk⟩; replace HA := hide (HA.out.up hbk); replace HA' := hide (HA'.out.up hbk); replace HW := chain HW hbk.out; clear a0 a1 x0 x1; have a0 := HA.out.c0; have a1 := HA.out.c1; have x0 := HA'.out.c0; have x1 := HA'.out.c1) | (go_at_call 23; (with_reducible refine (CC.out _ HW.out).mono ?_); rintro e w4 ⟨rfl, hbk⟩) | fail)
    go_ret
    exact ⟨by rw [HV.out]; rfl, chain HW hbk.out⟩
end
end Go.Proofs.YtdjngaejdmlekaaDoor
end

section
/- A number's letters, read again. No conditions. -/
open Go.RowKit
set_option maxRecDepth 100000
namespace Go.Proofs.YtdjngaejdmlekaaDoor
theorem dig_letter {d : Nat} (h : d < 10) : isDig (letter d) = true := by unfold isDig; rw [letter_toNat h]; simp; omega
theorem dvs_letters (l : List Nat) (h : ∀ d ∈ l, d < 10) : dvs (l.reverse.map letter) = l := by
  unfold dvs
  rw [← List.map_reverse, List.reverse_reverse, List.map_map]
  have : ∀ m : List Nat, (∀ d ∈ m, d < 10) → m.map ((fun c : UInt8 => c.toNat - 48) ∘ letter) = m := by
    intro m
    induction m with
    | nil => intro _; rfl
    | cons d m ih =>
      intro hm
      rw [List.map_cons, ih fun x hx => hm x (List.mem_cons_of_mem _ hx)]
      have := letter_toNat (hm d (List.mem_cons_self ..))
      simp only [Function.comp_apply, this]
      congr 1; omega
  exact this l h
theorem numL_decL (m : Nat) : numL (decL m) = m ∧ digB (decL m) = true := by
  unfold decL
  by_cases h0 : m = 0
  · rw [if_pos h0, h0]; exact ⟨rfl, by decide⟩
  · rw [if_neg h0]
    have hlt := digs_lt (b := 10) (by omega) m
    refine ⟨?_, ?_⟩
    · show numL ((digs 10 m).reverse.map letter) = m
      rw [numL_val, dvs_letters _ hlt, val_digs (by omega)]
    · unfold digB
      rw [Bool.and_eq_true]
      refine ⟨?_, ?_⟩
      · rw [digs_pos (by omega) (by omega)]; simp
      · rw [List.all_eq_true]
        intro c hc
        obtain ⟨d, hd, rfl⟩ := List.mem_map.1 hc
        exact dig_letter (hlt d (List.mem_reverse.1 hd))
theorem dt_le {m k : Nat} (h : m < 10 ^ k) (hk : 1 ≤ k) : (decL m).length ≤ k := by
  unfold decL
  by_cases h0 : m = 0
  · rw [if_pos h0]; exact hk
  · rw [if_neg h0, List.length_map, List.length_reverse]
    have h1 := pow_le_of_digs (b := 10) (n := m) (by decide) (by omega)
    have h2 : 10 ^ ((digs 10 m).length - 1) < 10 ^ k := Nat.lt_of_le_of_lt h1 h
    have h3 := (Nat.pow_lt_pow_iff_right (a := 10) (by decide)).1 h2
    omega
end Go.Proofs.YtdjngaejdmlekaaDoor
end

section
/- Package num: Text, Good of a valid number. Conditions: at most 100000 words. -/
open Go.RowKit
set_option maxRecDepth 100000
namespace Go.Proofs.YtdjngaejdmlekaaDoor
/-- An integer's letters. -/
def decZ (z : Int) : List UInt8 := if z < 0 then 45 :: decL z.natAbs else decL z.natAbs
def TxR (W : World) (l : List UInt8) (e : Ending) (w' : World) : Prop := ∃ t : ByteArray, e = .returned (.string t) ∧ Hid (t.data.toList = l) ∧ Hid (Below W.heap.size W w')
section
variable {W : World} {b : Bool} {A : Option Addr} {n c : Nat} {z : Int}
theorem text_h {m : Nat} (h : Nm W A n c m) : Calls Tryd.prog 16 #[.agg #[.slice A n c]] W (TxR W (decL m)) := (Text_any h.out).mono fun _ _ h => h
theorem decL_len {W : World} {A : Option Addr} {n c m : Nat} (h : Nm W A n c m) : (decL m).length ≤ 1000001 := by
  have h1 : m < 10 ^ (10 * dl m + 1) := by
    have h2 : m < W32 ^ dl m := lt_pow_digs (b := W32) (by decide) m
    have h3 : W32 ^ dl m ≤ (10 ^ 10) ^ dl m := Nat.pow_le_pow_left (by decide) _
    rw [← Nat.pow_mul] at h3
    exact Nat.lt_of_lt_of_le h2 (Nat.le_trans h3 (Nat.pow_le_pow_right (by decide) (by omega)))
  have := dt_le h1 (by omega)
  have := h.dl
  omega
set_option maxHeartbeats 1000000 in
theorem ztext_h (h : ZA W b A n c z) : Calls Tryd.prog 41 #[.agg #[.bool b, .slice A n c]] W (TxR W (decZ z)) := by
  have CT : Hid (∀ W', Below W.heap.size W W' → Calls Tryd.prog 16 #[.agg #[.slice A n c]] W' (TxR W' (decL z.natAbs))) := fun W' hb => text_h (h.up hb).1
  have HLEN := hide (decL_len h.1)
  by_cases hn : z < 0
  · have CS : Hid (∀ o, Calls Tryd.prog 39 #[.agg #[.bool b, .slice A n c]] (W.alloc o) (IntPost (W.alloc o) (-1))) := fun o => sign_h (h.al o) (Int.sign_eq_neg_one_of_neg hn)
    have HZ : Hid (decZ z = 45 :: decL z.natAbs) := if_pos hn
    clear h hn
    go_enter Tryd.func41, Tryd.ntmps41
    go_wp2_with (first | (go_at_call 39; (with_reducible refine (CS.out _).mono ?_); rintro e w1 ⟨rfl, hbk⟩; obtain ⟨e0, e1, hsz, hbx⟩ := bz1 hbk) | (go_at_call 16; (with_reducible refine (CT.out _ hbx.out).mono ?_); rintro e w2 ⟨t, rfl, ht, hbk2⟩; have hts : t.size ≤ 1000001 := (by rw [size_list, ht.out]; exact HLEN.out)) | fail)
    all_goals first
      | (go_ret
         refine ⟨_, rfl, ?_, chain hbx hbk2.out⟩
         unfold Hid
         rw [HZ.out, ← ht.out]
         simp)
      | (exfalso; omega)
  · by_cases h0 : z = 0
    all_goals
      have CS : Hid (∀ o, ∃ s, 0 ≤ s ∧ Calls Tryd.prog 39 #[.agg #[.bool b, .slice A n c]] (W.alloc o) (IntPost (W.alloc o) s)) := fun o => ⟨_, by first | (subst h0; decide) | (rw [Int.sign_eq_one_of_pos (by omega)]; decide), sign_h (h.al o) rfl⟩
      have HZ : Hid (decZ z = decL z.natAbs) := if_neg hn
      obtain ⟨s, hs0, hs⟩ := CS.out (.cells #[.bool b, .slice A n c] 54)
      have CS2 := hide hs
      clear h hn h0 CS hs
      go_enter Tryd.func41, Tryd.ntmps41
      go_wp2_with (first | (go_at_call 39; (with_reducible refine CS2.out.mono ?_); rintro e w1 ⟨rfl, hbk⟩; obtain ⟨e0, e1, hsz, hbx⟩ := bz1 hbk) | (go_at_call 16; (with_reducible refine (CT.out _ hbx.out).mono ?_); rintro e w2 ⟨t, rfl, ht, hbk2⟩) | fail)
      go_ret
      exact ⟨t, rfl, by unfold Hid; rw [HZ.out]; exact ht.out, chain hbx hbk2.out⟩
end
end Go.Proofs.YtdjngaejdmlekaaDoor
end

section
/- The document's own numbers: Text. Conditions: at most 100000 fours of digits. -/
open Go.RowKit
set_option maxRecDepth 100000
namespace Go.Proofs.YtdjngaejdmlekaaDoor
def DigR (w : World) (n least : Nat) (e : Ending) (w' : World) : Prop :=
  ∃ (t : ByteArray) (D : List Nat), e = .returned (.string t) ∧ Hid (t.data.toList = (D.map letter).reverse) ∧ Hid (∀ d ∈ D, d < 10) ∧ Hid (val 10 D = n) ∧ Hid (least ≤ D.length ∧ D.length ≤ 4) ∧ Hid (least < D.length → ∀ x, D.getLast? = some x → x ≠ 0) ∧ Hid (Below w.heap.size w w')
theorem one_conv (W : World) {d : Nat} (h : d < 10) : (convert 112 9 (.slice (some ⟨W.heap.size, 0, none⟩) 1 1)).run Tryd.prog (W.alloc (.cells #[.int .u8 (48 + (d : Int))] 5)) = .ok (.string ⟨#[letter d]⟩) (W.alloc (.cells #[.int .u8 (48 + (d : Int))] 5)) := by
  have h1 := run_convert_bytes_back (P := Tryd.prog) (W.alloc (.cells #[.int .u8 (48 + (d : Int))] 5)) 112 9 5 ⟨W.heap.size, 0, none⟩ 1 [letter d] Tryd.underlying112 Tryd.underlying5 Tryd.underlying9 (fun j hj => by
    have hj' : j = 0 := by simpa using hj
    subst hj'
    have e : (⟨W.heap.size, 0, none⟩ : Addr).add 0 = ⟨W.heap.size, 0, none⟩ := by unfold Addr.add; simp
    rw [e, (one_cell (heap_alloc_new W (.cells #[.int .u8 (48 + (d : Int))] 5))).1]
    simp [letter_toNat h])
  exact h1
theorem pow10_le {k v n : Nat} {V : Nat} (h : V + 10 ^ k * v = n) (hn : n ≤ 9999) (hv : 0 < v) : k ≤ 3 := by
  rcases Nat.lt_or_ge 3 k with h1 | h1
  · have h2 : 10 ^ 4 ≤ 10 ^ k := Nat.pow_le_pow_right (by decide) h1
    have h3 : 10 ^ k ≤ 10 ^ k * v := Nat.le_mul_of_pos_right _ hv
    omega
  · exact h1
set_option maxHeartbeats 2000000 in
theorem digits_any {n least : Nat} {w : World} (hn : n ≤ 9999) (hl : least ≤ 4) : Calls Tryd.prog 85 #[.int .i64 (n : Int), .int .i64 (least : Int)] w (DigR w n least) := by
  have CV := hide (fun (W : World) (d : Nat) (h : d < 10) => one_conv W h)
  have HN := hide hn
  go_enter Tryd.func85, Tryd.ntmps85
  go_wp2
  go_loopw [0, 5] (fun nv sv wr => ∃ (v : Nat) (D : List Nat) (s : ByteArray), nv = .int .i64 (v : Int) ∧ sv = .string s ∧ v ≤ 9999 ∧ D.length ≤ 4 ∧ Hid (s.size = D.length) ∧ Hid (s.data.toList = (D.map letter).reverse) ∧ Hid (∀ d ∈ D, d < 10) ∧ Hid (val 10 D + 10 ^ D.length * v = n) ∧ Hid (least < D.length → v = 0 → ∀ x, D.getLast? = some x → x ≠ 0) ∧ Hid (Below w.heap.size w wr))
    (fun nv sv _ => (intOf nv).toNat + (match sv with | .string s => 4 - s.size | _ => 0))
  case atStart => exact ⟨n, [], ⟨#[]⟩, rfl, rfl, HN.out, by simp, rfl, rfl, by intro d hd; simp at hd, by simp [Hid, val], by intro h; simp at h, Below.refl _ _⟩
  case round =>
    obtain ⟨v, D, s, rfl, rfl, hv9, hD, hsz, hsl, hD10, hval, hlast, hbel⟩ := hrel
    by_cases hgo : 0 < v ∨ D.length < least
    · have hD3 : D.length ≤ 3 := by
        rcases hgo with h | h
        · exact pow10_le hval.out HN.out h
        · omega
      obtain ⟨d, hd⟩ : ∃ d, d = v % 10 := ⟨_, rfl⟩
      obtain ⟨u, hu⟩ : ∃ u, u = v / 10 := ⟨_, rfl⟩
      have hd10 : d < 10 := by omega
      have hdb : d ≤ 9 := by omega
      have e1 : (v : Int) % 10 = (d : Int) := by omega
      have e2 : (v : Int).tmod 10 = (d : Int) := by rw [Int.tmod_eq_emod_of_nonneg (by omega)]; exact e1
      have e3 : IntKind.u8.wrap (48 + (d : Int)) = 48 + (d : Int) := by rw [IntKind.wrap_u8]; omega
      have f1 : (v : Int) / 10 = (u : Int) := by omega
      have f2 : (v : Int).tdiv 10 = (u : Int) := by rw [Int.tdiv_eq_ediv_of_nonneg (by omega)]; exact f1
      have hc := CV.out wr d hd10
      have hs1 : s.size ≤ 4 := by rw [hsz.out]; exact hD
      have g1 : ¬ 9223372036854775807 < 1 + s.size := by omega
      have g2 : 1 + s.size ≤ 9223372036854775807 := by omega
      have RN : Hid (v = 10 * u + d) := by unfold Hid; omega
      have HS : Hid (s.size < least ↔ D.length < least) := by unfold Hid; rw [hsz.out]
      have hub : u ≤ 9999 := by omega
      have hways : 0 < v ∨ (¬ 0 < v ∧ s.size < least) := by rw [hsz.out]; omega
      clear hgo hd hu
      have FIN : Hid (D.length + 1 ≤ 4 ∧ (∀ x ∈ D ++ [d], x < 10) ∧ val 10 (D ++ [d]) + 10 ^ (D ++ [d]).length * u = n ∧ (least < (D ++ [d]).length → u = 0 → ∀ x, (D ++ [d]).getLast? = some x → x ≠ 0)) := by
        refine ⟨by omega, ?_, ?_, ?_⟩
        · intro x hx
          rcases List.mem_append.1 hx with hx | hx
          · exact hD10.out x hx
          · simp at hx; omega
        · rw [val_snoc, List.length_append, List.length_singleton, Nat.pow_succ, ← hval.out, RN.out, Nat.mul_add, Nat.mul_assoc]; omega
        · intro h1 h2 x hx
          rw [List.getLast?_append] at hx
          simp at hx
          rw [List.length_append, List.length_singleton] at h1
          have h3 := RN.out
          have h4 : 0 < v := by
            rcases hways with h | ⟨h, h5⟩
            · exact h
            · have := HS.out.1 h5; omega
          omega
      rcases hways with hw | ⟨hw, hw2⟩
      all_goals
        go_wp2
        go_roundw
        case rel =>
          refine ⟨u, D ++ [d], _, rfl, rfl, hub, by rw [List.length_append, List.length_singleton]; exact FIN.out.1, ?_, ?_, FIN.out.2.1, FIN.out.2.2.1, FIN.out.2.2.2, hbel.out.alloc hbel.out.size _⟩
          · unfold Hid; rw [ByteArray.size_append, List.length_append, hsz.out, Nat.add_comm]; rfl
          · unfold Hid; rw [List.map_append, List.reverse_append, ← hsl.out]; simp
        case measure =>
          have h1 := RN.out
          have h2 := hsz.out
          have h3 : (⟨#[letter d]⟩ : ByteArray).size = 1 := rfl
          simp [intOf]
          omega
    · have hv0 : v = 0 := by omega
      subst hv0
      have hl1 : ¬ s.size < least := by rw [hsz.out]; omega
      have HL := hide (show least ≤ D.length by omega)
      clear hgo
      go_wp2
      go_ret
      exact ⟨s, D, rfl, hsl, hD10, by have := hval.out; unfold Hid; omega, ⟨HL.out, hD⟩, fun h => hlast.out h (by first | rfl | trivial), hbel⟩
/-- A four of digits ahead of others. -/
theorem digs_ahead {D : List Nat} {M : Nat} (hD : ∀ d ∈ D, d < 10) (hM : 0 < M) : digs 10 (val 10 D + 10 ^ D.length * M) = D ++ digs 10 M := by
  have h1 : val 10 (D ++ digs 10 M) = val 10 D + 10 ^ D.length * M := by rw [val_append, val_digs (by decide)]
  rw [← h1]
  refine digs_val (by decide) _ ?_ ?_
  · intro x hx
    rcases List.mem_append.1 hx with hx | hx
    · exact hD x hx
    · exact digs_lt (by decide) M x hx
  · intro x hx
    have hne : digs 10 M ≠ [] := fun e => by
      have := (digs_len_pos (b := 10) (n := M) (by decide)).1 (by rw [e]; rfl)
      omega
    rw [List.getLast?_append] at hx
    cases hg : (digs 10 M).getLast? with
    | none => exact absurd (List.getLast?_eq_none_iff.1 hg) hne
    | some y =>
      rw [hg] at hx
      simp at hx
      subst hx
      exact digs_last (by decide) M y hg
theorem decL_ahead {D : List Nat} {M : Nat} (hD : ∀ d ∈ D, d < 10) (hl : D.length = 4) (hM : 0 < M) : decL (val 10 D + D4 * M) = decL M ++ (D.map letter).reverse := by
  have e : D4 = 10 ^ D.length := by rw [hl]; rfl
  unfold decL
  rw [if_neg (by have : 0 < D4 * M := Nat.mul_pos (by decide) hM; omega), if_neg (by omega), e, digs_ahead hD hM, List.reverse_append, List.map_append, List.map_reverse, List.map_reverse]
  rfl
theorem decL_top {D : List Nat} {n : Nat} (hD : ∀ d ∈ D, d < 10) (hv : val 10 D = n) (h1 : 1 ≤ D.length) (hl : 1 < D.length → ∀ x, D.getLast? = some x → x ≠ 0) (hn : 0 < n) : decL n = (D.map letter).reverse := by
  have h2 : digs 10 n = D := by
    rw [← hv]
    refine digs_val (by decide) D hD fun x hx => ?_
    rcases Nat.lt_or_ge 1 D.length with h | h
    · exact hl h x hx
    · match D, h1, h with
      | [d], _, _ =>
        simp at hx
        subst hx
        simp [val] at hv
        omega
  unfold decL
  rw [if_neg (by omega), h2, List.map_reverse]
  rfl
theorem dec_four {m : Nat} : (decL m).length ≤ 4 * dq m + 1 := by
  have h1 : m < D4 ^ dq m := lt_pow_digs (b := D4) (by decide) m
  have h2 : D4 ^ dq m = 10 ^ (4 * dq m) := by rw [Nat.pow_mul]; rfl
  rw [h2] at h1
  exact dt_le (Nat.lt_of_lt_of_le h1 (Nat.pow_le_pow_right (by decide) (by omega))) (by omega)
set_option maxHeartbeats 2000000 in
theorem rText_any {A : Option Addr} {c m : Nat} {w : World} (h : RN w w.heap.size A c m) (hl : dq m ≤ 100000) : Calls Tryd.prog 32 #[.slice A (dq m) c] w (TxR w (decL m)) := by
  rcases Nat.eq_zero_or_pos m with h0 | h0
  · subst h0
    have hq : dq 0 = 0 := dq_zero
    clear h
    go_enter Tryd.func32, Tryd.ntmps32
    go_wp2
    refine bodyPost_ret (v := .string ⟨#[48]⟩) (by simp [results, Tryd.results32, go_sem]) rfl ⟨_, rfl, rfl, Below.refl _ _⟩
  · obtain ⟨k, hk⟩ : ∃ k, dq m = k + 1 := by
      rcases Nat.eq_zero_or_pos (dq m) with h1 | h1
      · have := (digs_len_pos (b := D4) (n := m) (by decide)).1 h1; omega
      · exact ⟨dq m - 1, by omega⟩
    have hkl : k < (digs D4 m).length := by have : (digs D4 m).length = dq m := rfl; omega
    obtain ⟨ad, rfl, hab, hcell⟩ := h.2.at_ hkl
    obtain ⟨x, hx⟩ : ∃ x, x = (digs D4 m)[k] := ⟨_, rfl⟩
    rw [← hx] at hcell
    unfold I64 at hcell
    have hx9 : x ≤ 9999 := by rw [hx]; have h4 : D4 = 10000 := rfl; have := good4_digs m _ (List.getElem_mem hkl); omega
    have hdrop : (digs D4 m).drop k = [x] := by
      rw [List.drop_eq_getElem_cons hkl, ← hx, List.drop_of_length_le (by have : (digs D4 m).length = dq m := rfl; omega)]
    have hx0 : 0 < x := by
      have h1 := digs_last (b := D4) (by decide) m x (by
        rw [List.getLast?_eq_getElem?, show (digs D4 m).length - 1 = k by have : (digs D4 m).length = dq m := rfl; omega, List.getElem?_eq_getElem hkl, ← hx])
      omega
    have HX := hide h
    have CT : Hid (∀ (W : World), Calls Tryd.prog 85 #[.int .i64 (x : Int), .int .i64 1] W (DigR W x 1)) := fun W => digits_any (n := x) (least := 1) (w := W) hx9 (by decide)
    have CF : Hid (∀ (W : World) (n : Nat), n ≤ 9999 → Calls Tryd.prog 85 #[.int .i64 (n : Int), .int .i64 4] W (DigR W n 4)) := fun W n hn => digits_any (n := n) (least := 4) (w := W) hn (by decide)
    have HDR := hide hdrop
    have HK := hide hk
    have HL := hide hl
    have hkb : k ≤ 100000 := by omega
    have hkd : k < dq m := by omega
    have e1 : (dq m : Int) - 1 = (k : Int) := by omega
    have e2 : (dq m : Int) - 2 = (k : Int) - 1 := by omega
    have e3 : ¬ dq m = 0 := by omega
    have HB0 : Hid (∀ j, (decL (val D4 ((digs D4 m).drop j))).length ≤ 400001) := fun j => Nat.le_trans dec_four (by
      have h1 : dq (val D4 ((digs D4 m).drop j)) ≤ ((digs D4 m).drop j).length := digs_len_le (by decide) _ (fun x hx => good4_digs m x (List.mem_of_mem_drop hx))
      rw [List.length_drop] at h1
      have : (digs D4 m).length = dq m := rfl
      omega)
    clear h hx hk hdrop hl hkl
    go_enter Tryd.func32, Tryd.ntmps32
    go_wp2_with (first | (go_at_call 85; (with_reducible refine (CT.out _).mono ?_); rintro e w1 ⟨t, D, rfl, ht, hD, hv, hlen, hlast, hbk⟩) | fail)
    go_loopw [3, 4] (fun sv iv wr => ∃ (j : Nat) (s : ByteArray), j ≤ k ∧ sv = .string s ∧ iv = .int .i64 ((j : Int) - 1) ∧ Hid (s.data.toList = decL (val D4 ((digs D4 m).drop j))) ∧ Hid (0 < val D4 ((digs D4 m).drop j)) ∧ Hid (Below w.heap.size w wr)) (fun _ iv _ => (intOf iv + 1).toNat)
    case atStart =>
      have hvx : val D4 ((digs D4 m).drop k) = x := by rw [HDR.out]; simp [val]
      exact ⟨k, t, Nat.le_refl _, rfl, rfl, by unfold Hid; rw [hvx, ht.out, decL_top hD.out hv.out hlen.out.1 hlast.out hx0], by unfold Hid; rw [hvx]; exact hx0, hbk⟩
    case round =>
      obtain ⟨j, s, hj, rfl, rfl, hs, hpos, hbel⟩ := hrel
      by_cases hj0 : j = 0
      · subst hj0
        have HS : Hid (s.data.toList = decL m) := by
          have h1 := hs.out
          rwa [List.drop_zero, val_digs4] at h1
        go_wp2
        go_ret
        exact ⟨s, rfl, HS, hbel⟩
      · obtain ⟨i, rfl⟩ : ∃ i, j = i + 1 := ⟨j - 1, by omega⟩
        have hi : i < (digs D4 m).length := by have : (digs D4 m).length = dq m := rfl; omega
        obtain ⟨ad2, e, hab2, hcell2⟩ := ((HX.out.below hbel.out).2).at_ hi
        injection e with e
        subst e
        obtain ⟨y, hy⟩ : ∃ y, y = (digs D4 m)[i] := ⟨_, rfl⟩
        rw [← hy] at hcell2
        unfold I64 at hcell2
        have hy9 : y ≤ 9999 := by rw [hy]; have h4 : D4 = 10000 := rfl; have := good4_digs m _ (List.getElem_mem hi); omega
        have HDI : Hid ((digs D4 m).drop i = y :: (digs D4 m).drop (i + 1)) := by unfold Hid; rw [List.drop_eq_getElem_cons hi, ← hy]
        have hid : i < dq m := hi
        have hss : s.size ≤ 400001 := by rw [size_list, hs.out]; exact HB0.out _
        clear hy hi hj0
        go_wp2_with (first | (go_at_call 85; (with_reducible refine (CF.out _ y hy9).mono ?_); rintro e w2 ⟨t2, D2, rfl, ht2, hD2, hv2, hlen2, hlast2, hbk2⟩; have hs2 : t2.size ≤ 4 := (by rw [size_list, ht2.out]; simp; exact hlen2.out.2); have g1 : ¬ 9223372036854775807 < s.size + t2.size := (by omega); have g2 : s.size + t2.size ≤ 9223372036854775807 := (by omega)) | fail)
        go_roundw
        case rel =>
          have hvv : val D4 ((digs D4 m).drop i) = val 10 D2 + D4 * val D4 ((digs D4 m).drop (i + 1)) := by rw [HDI.out, hv2.out]; rfl
          refine ⟨i, _, by omega, rfl, rfl, ?_, ?_, hbel.out.trans (hbk2.out.mono hbel.out.size)⟩
          · unfold Hid
            rw [hvv, decL_ahead hD2.out (by have := hlen2.out; omega) hpos.out, ← hs.out, ← ht2.out]
            simp
          · unfold Hid
            rw [hvv]
            have : 0 < D4 * val D4 ((digs D4 m).drop (i + 1)) := Nat.mul_pos (by decide) hpos.out
            omega
        case measure => simp [intOf]
end Go.Proofs.YtdjngaejdmlekaaDoor
end

section
/- strings.CutPrefix at a minus. Conditions: a string of at most 100000 bytes. -/
open Go.RowKit
set_option maxRecDepth 100000
namespace Go.Proofs.YtdjngaejdmlekaaDoor
def minusS : ByteArray := ⟨#[45]⟩
theorem toList_loop (bs : ByteArray) (k : Nat) : ∀ i r, bs.size - i = k → ByteArray.toList.loop bs i r = r.reverse ++ bs.data.toList.drop i := by
  induction k with
  | zero =>
    intro i r h
    unfold ByteArray.toList.loop
    rw [if_neg (by omega), List.drop_of_length_le (by show bs.data.size ≤ i; have : bs.data.size = bs.size := rfl; omega), List.append_nil]
  | succ k ih =>
    intro i r h
    have hi : i < bs.data.toList.length := by show i < bs.data.size; have : bs.data.size = bs.size := rfl; omega
    unfold ByteArray.toList.loop
    rw [if_pos (by omega), ih (i + 1) _ (by omega), List.drop_eq_getElem_cons hi, List.reverse_cons, List.append_assoc]
    congr 2
    show bs.get! i :: _ = _
    have : bs.get! i = bs.data.toList[i] := by
      show bs.data[i]! = _
      rw [getElem!_pos bs.data i hi]; rfl
    rw [this]; rfl
theorem toList_data (bs : ByteArray) : bs.toList = bs.data.toList := by
  unfold ByteArray.toList
  rw [toList_loop bs _ 0 [] rfl]; rfl
theorem extract_list (s : ByteArray) (i j : Nat) : (s.extract i j).data.toList = (s.data.toList.take j).drop i := by
  simp [ByteArray.data_extract, List.extract_eq_drop_take', Array.toList_extract]
theorem minus_head (s : ByteArray) : ((s.extract 0 1).toList == [45]) = (s.data.toList.head? == some 45) := by
  rw [toList_data, extract_list]
  cases s.data.toList with
  | nil => rfl
  | cons x xs => simp
theorem HasPrefix_any (s : ByteArray) (w : World) (hs : s.size ≤ 100000) :
    Calls Tryd.prog 128 #[.string s, .string ⟨#[45]⟩] w fun e w' => e = .returned (.bool (s.data.toList.head? == some 45)) ∧ w = w' := by
  by_cases h0 : s.size = 0
  · have HE : Hid ((s.data.toList.head? == some 45) = false) := by
      have : s.data.toList = [] := List.eq_nil_of_length_eq_zero (by rw [← size_list]; exact h0)
      unfold Hid; rw [this]; rfl
    go_enter Tryd.func128, Tryd.ntmps128
    go_wp2
    go_ret
    exact ⟨by rw [HE.out]; rfl, rfl⟩
  · have h1 : 1 ≤ s.size := by omega
    have HE := hide (minus_head s)
    go_enter Tryd.func128, Tryd.ntmps128
    go_wp2
    go_ret
    exact ⟨by rw [← HE.out]; rfl, rfl⟩
/-- What CutPrefix leaves. -/
def CutR (w : World) (s : ByteArray) (e : Ending) (w' : World) : Prop := ∃ t : ByteArray, ∃ b : Bool, e = .returned (.tuple #[.string t, .bool b]) ∧ Hid (s.data.toList = (if b then [45] else []) ++ t.data.toList ∧ (b = false → s.data.toList.head? ≠ some 45)) ∧ w = w'
theorem cutp_any (s : ByteArray) (w : World) (hs : s.size ≤ 100000) : Calls Tryd.prog 114 #[.string s, .string ⟨#[45]⟩] w (CutR w s) := by
  have CH := hide (fun W => HasPrefix_any s W hs)
  by_cases hh : s.data.toList.head? = some 45
  · have hb : (s.data.toList.head? == some 45) = true := by rw [hh]; rfl
    rw [hb] at CH
    obtain ⟨m, hm⟩ : ∃ m, s.data.toList = 45 :: m := by
      cases hl : s.data.toList with
      | nil => rw [hl] at hh; cases hh
      | cons x xs => rw [hl] at hh; injection hh with hh; exact ⟨xs, by rw [hh]⟩
    have h1 : 1 ≤ s.size := by rw [size_list, hm]; simp
    have HM := hide hm
    clear hh hb hm
    go_enter Tryd.func114, Tryd.ntmps114
    go_wp2_with (first | (go_at_call 128; (with_reducible refine (CH.out _).mono ?_); rintro e w1 ⟨rfl, rfl⟩) | fail)
    refine bodyPost_ret (v := .tuple #[.string (s.extract 1 s.size), .bool true]) (by simp [results, Tryd.results114, go_sem]) rfl ⟨_, true, rfl, ⟨?_, fun h => by cases h⟩, rfl⟩
    rw [extract_list, List.take_of_length_le (by rw [size_list]; exact Nat.le_refl _), HM.out]
    rfl
  · have hb : (s.data.toList.head? == some 45) = false := by rw [beq_eq_false_iff_ne]; exact hh
    rw [hb] at CH
    have HH := hide hh
    clear hh hb
    go_enter Tryd.func114, Tryd.ntmps114
    go_wp2_with (first | (go_at_call 128; (with_reducible refine (CH.out _).mono ?_); rintro e w1 ⟨rfl, rfl⟩) | fail)
    refine bodyPost_ret (v := .tuple #[.string s, .bool false]) (by simp [results, Tryd.results114, go_sem]) rfl ⟨s, false, rfl, ⟨rfl, fun _ => HH.out⟩, rfl⟩
theorem cut_any (s : ByteArray) (w : World) (hs : s.size ≤ 100000) : Calls Tryd.prog 86 #[.string s, .string ⟨#[45]⟩] w (CutR w s) := by
  have CH := hide (fun W => cutp_any s W hs)
  go_enter Tryd.func86, Tryd.ntmps86
  go_wp2_with (first | (go_at_call 114; (with_reducible refine (CH.out _).mono ?_); rintro e w1 ⟨t, b, rfl, ht, rfl⟩) | fail)
  exact bodyPost_ret (v := .tuple #[.string t, .bool b]) (by simp [results, Tryd.results86, go_sem]) rfl ⟨t, b, rfl, ht, rfl⟩
def CutS (w : World) (l : List UInt8) (b : Bool) (e : Ending) (w' : World) : Prop := ∃ t : ByteArray, e = .returned (.tuple #[.string t, .bool b]) ∧ Hid (t.data.toList = l) ∧ w = w'
theorem cut_h (s : ByteArray) (w : World) (hs : s.size ≤ 100000) {b : Bool} {l : List UInt8} (h : s.data.toList = (if b then [45] else []) ++ l) (hb : b = false → l.head? ≠ some 45) : Calls Tryd.prog 86 #[.string s, .string ⟨#[45]⟩] w (CutS w l b) := by
  refine (cut_any s w hs).mono ?_
  rintro e w' ⟨t, b', rfl, ht, rfl⟩
  obtain ⟨h1, h2⟩ := ht.out
  rw [h] at h1 h2
  cases b <;> cases b'
  · exact ⟨t, rfl, by simpa [Hid] using h1.symm, rfl⟩
  · exfalso; refine hb rfl ?_; rw [show l = 45 :: t.data.toList by simpa using h1]; rfl
  · exfalso; exact h2 rfl rfl
  · exact ⟨t, rfl, by simpa [Hid] using h1.symm, rfl⟩
/-- What Parse leaves of an integer. -/
def ZPR (W : World) (z : Int) (e : Ending) (w' : World) : Prop :=
  ∃ A c, e = .returned (.tuple #[.agg #[.bool (decide (z < 0)), .slice A (dl z.natAbs) c], .bool true]) ∧ ZA w' (decide (z < 0)) A (dl z.natAbs) c z ∧ Hid (Below W.heap.size W w')
def ZPN (W : World) (e : Ending) (w' : World) : Prop := e = .returned (.tuple #[.agg #[.bool false, .slice none 0 0], .bool false]) ∧ Hid (Below W.heap.size W w')
def PsR (W : World) (v : Nat) (e : Ending) (w' : World) : Prop := ∃ A c, e = .returned (.tuple #[.agg #[.slice A (dl v) c], .bool true]) ∧ Nm w' A (dl v) c v ∧ Hid (Below W.heap.size W w')
def PsN (W : World) (e : Ending) (w' : World) : Prop := e = .returned (.tuple #[.agg #[.slice none 0 0], .bool false]) ∧ Hid (Below W.heap.size W w')
theorem numL_dl {l : List UInt8} (hd : digB l = true) (h : l.length ≤ 99999) : dl (numL l) ≤ 100000 := by
  have h1 := numL_lt l (by unfold digB at hd; rw [Bool.and_eq_true] at hd; exact hd.2)
  refine Nat.le_trans (dl_le (k := l.length + 1) (Nat.lt_of_lt_of_le h1 ?_)) (by omega)
  rw [Nat.pow_succ]
  exact Nat.le_trans (Nat.pow_le_pow_left (show 10 ≤ W32 by decide) _) (Nat.le_mul_of_pos_right _ (by decide))
theorem parse_h (s : ByteArray) (w : World) (hs : s.size ≤ 99999) (h : digB s.data.toList = true) {v : Nat} (hv : numL s.data.toList = v) : Calls Tryd.prog 15 #[.string s] w (PsR w v) := by
  subst hv
  refine (Parse_any s w (by omega)).mono fun e w' h1 => ?_
  unfold ParsePost at h1
  rw [if_pos h] at h1
  obtain ⟨A, c, he, hc, hb⟩ := h1
  exact ⟨A, c, he, nm_can hc (numL_dl h (by rw [← size_list]; omega)), hb⟩
theorem parse_n (s : ByteArray) (w : World) (hs : s.size ≤ 99999) (h : ¬ digB s.data.toList = true) : Calls Tryd.prog 15 #[.string s] w (PsN w) := by
  refine (Parse_any s w (by omega)).mono fun e w' h1 => ?_
  unfold ParsePost at h1
  rw [if_neg h] at h1
  exact h1
theorem alc1 {w : World} {o : Obj} {p i : Nat} {v : Value} (h : w.cell? ⟨p, i, none⟩ = some v) : (w.alloc o).cell? ⟨p, i, none⟩ = some v := (World.cell?_alloc_some _ _ _ (by rw [h]; rfl)).trans h
theorem set2b {w : World} {p : Nat} {s : Bool} {A : Option Addr} {n c : Nat} {x y : Value} (h : Zcell w p s A n c) :
    ((w.setCell ⟨p, 0, none⟩ x).setCell ⟨p, 1, none⟩ y).cell? ⟨p, 0, none⟩ = some x ∧ ((w.setCell ⟨p, 0, none⟩ x).setCell ⟨p, 1, none⟩ y).cell? ⟨p, 1, none⟩ = some y :=
  ⟨(World.cell?_setCell_other _ _ _ _ (by intro e; cases e)).trans (World.cell?_setCell_same _ _ _ h.c0), World.cell?_setCell_same _ _ _ ((World.cell?_setCell_other _ _ _ _ (by intro e; cases e)).trans h.c1)⟩
section
variable {W : World} {s : ByteArray} {b : Bool} {l : List UInt8}
set_option maxHeartbeats 1000000 in
theorem zparse_h {v : Int} (hs : s.size ≤ 99999) (h : s.data.toList = (if b then [45] else []) ++ l) (hb : b = false → l.head? ≠ some 45) (hd : digB l = true) (hv : zi b (numL l) = v) : Calls Tryd.prog 35 #[.string s] W (ZPR W v) := by
  have hll : l.length ≤ 99999 := by
    have := congrArg List.length h
    rw [← size_list, List.length_append] at this
    omega
  have CC := hide (fun (W' : World) => cut_h s W' (by omega) h hb)
  have CP : Hid (∀ (W' : World) (t : ByteArray), Hid (t.data.toList = l) → Calls Tryd.prog 15 #[.string t] W' (PsR W' v.natAbs)) := fun W' t ht => parse_h t W' (by rw [size_list, ht.out]; exact hll) (by rw [ht.out]; exact hd) (by rw [ht.out, ← hv, zi_abs])
  have CS : Hid (∀ W' B n d, Nm W' B n d v.natAbs → Calls Tryd.prog 87 #[.bool b, .agg #[.slice B n d]] W' (SgR W' (decide (v < 0)) B n d)) := fun W' B n d hn => signed_z hn (by rw [← hv, zi_abs])
  clear h hb hd hv hs hll
  go_enter Tryd.func35, Tryd.ntmps35
  go_wp2_with (first | (go_at_call 86; (with_reducible refine (CC.out _).mono ?_); rintro e w1 ⟨t, rfl, ht, rfl⟩) | (go_at_call 15; (with_reducible refine (CP.out _ t ht).mono ?_); rintro e w2 ⟨B, d, rfl, hn, hbk⟩; have HR := hide ((zc_new _ _ _ _ _ _).up hbk); have HW : Hid (Below W.heap.size W w2) := (bz1 hbk).2.2.2; have l0 := HR.out.lt; have r0 := HR.out.c0; have r1 := HR.out.c1; have f0 := HR.out.f0; have f1 := HR.out.f1) | (go_at_call 87; (with_reducible refine (CS.out _ _ _ _ (hn.al _)).mono ?_); rintro e w3 ⟨rfl, hbk2⟩; replace HR := hide (HR.out.upA hbk2); replace HW := bel_al HW hbk2; replace hn := nm_upA hn hbk2; clear r0 r1 f0 f1 l0; have l0 := HR.out.lt; have r0 := HR.out.c0; have r1 := HR.out.c1; have f0 := HR.out.f0; have f1 := HR.out.f1) | fail)
  refine bodyPost_ret (v := .tuple #[.agg #[.bool (decide (v < 0)), .slice B (dl v.natAbs) d], .bool true]) (by simp [results, Tryd.results35, go_sem, r0, r1]) rfl ?_
  exact ⟨B, d, rfl, zr_of (nm_z2 hn HR.out.c0 HR.out.c1), (HW.out.setCell (by simp) _).setCell (by simp) _⟩
theorem zparse_n (hs : s.size ≤ 99999) (h : s.data.toList = (if b then [45] else []) ++ l) (hb : b = false → l.head? ≠ some 45) (hd : ¬ digB l = true) : Calls Tryd.prog 35 #[.string s] W (ZPN W) := by
  have hll : l.length ≤ 99999 := by
    have := congrArg List.length h
    rw [← size_list, List.length_append] at this
    omega
  have CC := hide (fun (W' : World) => cut_h s W' (by omega) h hb)
  have CP : Hid (∀ (W' : World) (t : ByteArray), Hid (t.data.toList = l) → Calls Tryd.prog 15 #[.string t] W' (PsN W')) := fun W' t ht => parse_n t W' (by rw [size_list, ht.out]; exact hll) (by rw [ht.out]; exact hd)
  clear h hb hd hs hll
  go_enter Tryd.func35, Tryd.ntmps35
  go_wp2_with (first | (go_at_call 86; (with_reducible refine (CC.out _).mono ?_); rintro e w1 ⟨t, rfl, ht, rfl⟩) | (go_at_call 15; (with_reducible refine (CP.out _ t ht).mono ?_); rintro e w2 ⟨rfl, hbk⟩; have HR := hide ((zc_new _ _ _ _ _ _).up hbk); have HW : Hid (Below W.heap.size W w2) := (bz1 hbk).2.2.2; have l0 := HR.out.lt; have r0 := HR.out.c0; have r1 := HR.out.c1; have f0 := HR.out.f0; have f1 := HR.out.f1) | fail)
  have u0 := fun o => alc1 (o := o) (set2b (x := .bool false) (y := .slice none 0 0) HR.out).1
  have u1 := fun o => alc1 (o := o) (set2b (x := .bool false) (y := .slice none 0 0) HR.out).2
  refine bodyPost_ret (v := .tuple #[.agg #[.bool false, .slice none 0 0], .bool false]) (by simp [results, Tryd.results35, go_sem, u0, u1]) rfl ⟨rfl, ?_⟩
  exact ((HW.out.setCell (by simp) _).setCell (by simp) _).alloc (by have := HW.out.size; simpa [World.setCell] using this) _
/-- Good of a valid integer. -/
theorem zgood_h {A : Option Addr} {c : Nat} {z : Int} (h : ZA W (decide (z < 0)) A (dl z.natAbs) c z) : Calls Tryd.prog 38 #[.agg #[.bool (decide (z < 0)), .slice A (dl z.natAbs) c]] W (BoolR W true) := by
  have CG : Hid (∀ o, Calls Tryd.prog 19 #[.agg #[.slice A (dl z.natAbs) c]] (W.alloc o) (BoolR (W.alloc o) true)) := fun o => good_h (h.al o).1
  by_cases hn : z < 0
  · have CZ : Hid (∀ W', Below W.heap.size W W' → Calls Tryd.prog 88 #[.agg #[.slice A (dl z.natAbs) c]] W' (BoolR W' false)) := fun W' hb => za_some (h.up hb) (by omega)
    rw [decide_eq_true hn]
    clear h hn
    go_enter Tryd.func38, Tryd.ntmps38
    go_wp2_with (first | (go_at_call 19; (with_reducible refine (CG.out _).mono ?_); rintro e w1 ⟨rfl, hbk⟩; obtain ⟨e0, e1, hsz, hbx⟩ := bz1 hbk) | (go_at_call 88; (with_reducible refine (CZ.out _ hbx.out).mono ?_); rintro e w2 ⟨rfl, hbk2⟩) | fail)
    go_ret
    exact ⟨rfl, chain hbx hbk2.out⟩
  · rw [decide_eq_false hn]
    clear h hn
    go_enter Tryd.func38, Tryd.ntmps38
    go_wp2_with (first | (go_at_call 19; (with_reducible refine (CG.out _).mono ?_); rintro e w1 ⟨rfl, hbk⟩; obtain ⟨e0, e1, hsz, hbx⟩ := bz1 hbk) | fail)
    go_ret
    exact ⟨rfl, hbx⟩
end
end Go.Proofs.YtdjngaejdmlekaaDoor
end
