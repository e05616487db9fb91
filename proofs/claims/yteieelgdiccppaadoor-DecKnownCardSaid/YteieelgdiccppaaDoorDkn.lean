/- DecKnown: the walk. No conditions. -/
import Derived.Test.YteieelgdiccppaaDoorGDknc26
import Derived.Test.YteieelgdiccppaaDoorDo
import Derived.Test.YteieelgdiccppaaDoorGDknc19
import Derived.Deep.LoopGhost
open Go.RowKit
set_option maxRecDepth 100000
namespace Go.Proofs.YteieelgdiccppaaDoor
def strs9 : List Value := [.string (⟨#[]⟩ : ByteArray), .string (⟨#[45]⟩ : ByteArray), .string (⟨#[46, 53]⟩ : ByteArray), .string (⟨#[53, 46]⟩ : ByteArray), .string (⟨#[49, 46, 50, 46, 51]⟩ : ByteArray), .string (⟨#[43, 49]⟩ : ByteArray), .string (⟨#[49, 101, 53]⟩ : ByteArray), .string (⟨#[32, 49]⟩ : ByteArray), .string (⟨#[45, 45, 49]⟩ : ByteArray)]
theorem bad_strs {k : Nat} (h : k < 9) : ∃ S : ByteArray, strs9[k]? = some (.string S) ∧ ∀ W, Calls Tryd.prog 49 #[.string S] W (DPE W 2) := by
  have hk : k = 0 ∨ k = 1 ∨ k = 2 ∨ k = 3 ∨ k = 4 ∨ k = 5 ∨ k = 6 ∨ k = 7 ∨ k = 8 := by omega
  rcases hk with rfl | rfl | rfl | rfl | rfl | rfl | rfl | rfl | rfl
  · exact ⟨⟨#[]⟩, rfl, fun W => dparse_bad (b := false) (t := []) (u := []) (pt := false) ⟨⟨[], rfl, (fun _ => by decide), ⟨(fun h => by cases h), (fun _ => ⟨rfl, rfl⟩), by decide⟩⟩⟩ (by decide) (by decide)⟩
  · exact ⟨⟨#[45]⟩, rfl, fun W => dparse_bad (b := true) (t := []) (u := []) (pt := false) ⟨⟨[], rfl, (fun h => by cases h), ⟨(fun h => by cases h), (fun _ => ⟨rfl, rfl⟩), by decide⟩⟩⟩ (by decide) (by decide)⟩
  · exact ⟨⟨#[46, 53]⟩, rfl, fun W => dparse_bad (b := false) (t := []) (u := [53]) (pt := true) ⟨⟨[46, 53], rfl, (fun _ => by decide), ⟨(fun _ => rfl), (fun h => by cases h), by decide⟩⟩⟩ (by decide) (by decide)⟩
  · exact ⟨⟨#[53, 46]⟩, rfl, fun W => dparse_bad (b := false) (t := [53]) (u := []) (pt := true) ⟨⟨[53, 46], rfl, (fun _ => by decide), ⟨(fun _ => rfl), (fun h => by cases h), by decide⟩⟩⟩ (by decide) (by decide)⟩
  · exact ⟨⟨#[49, 46, 50, 46, 51]⟩, rfl, fun W => dparse_bad (b := false) (t := [49]) (u := [50, 46, 51]) (pt := true) ⟨⟨[49, 46, 50, 46, 51], rfl, (fun _ => by decide), ⟨(fun _ => rfl), (fun h => by cases h), by decide⟩⟩⟩ (by decide) (by decide)⟩
  · exact ⟨⟨#[43, 49]⟩, rfl, fun W => dparse_bad (b := false) (t := [43, 49]) (u := []) (pt := false) ⟨⟨[43, 49], rfl, (fun _ => by decide), ⟨(fun h => by cases h), (fun _ => ⟨rfl, rfl⟩), by decide⟩⟩⟩ (by decide) (by decide)⟩
  · exact ⟨⟨#[49, 101, 53]⟩, rfl, fun W => dparse_bad (b := false) (t := [49, 101, 53]) (u := []) (pt := false) ⟨⟨[49, 101, 53], rfl, (fun _ => by decide), ⟨(fun h => by cases h), (fun _ => ⟨rfl, rfl⟩), by decide⟩⟩⟩ (by decide) (by decide)⟩
  · exact ⟨⟨#[32, 49]⟩, rfl, fun W => dparse_bad (b := false) (t := [32, 49]) (u := []) (pt := false) ⟨⟨[32, 49], rfl, (fun _ => by decide), ⟨(fun h => by cases h), (fun _ => ⟨rfl, rfl⟩), by decide⟩⟩⟩ (by decide) (by decide)⟩
  · exact ⟨⟨#[45, 45, 49]⟩, rfl, fun W => dparse_bad (b := true) (t := [45, 49]) (u := []) (pt := false) ⟨⟨[45, 49], rfl, (fun h => by cases h), ⟨(fun h => by cases h), (fun _ => ⟨rfl, rfl⟩), by decide⟩⟩⟩ (by decide) (by decide)⟩
def strLen : Value → Nat
  | .string s => s.size
  | _ => 0
theorem str_meas {S : ByteArray} (h : S.size < 257) : 257 - strLen (.string (S ++ (⟨#[49]⟩ : ByteArray))) < 257 - strLen (.string S) := by
  have h1 : strLen (.string (S ++ (⟨#[49]⟩ : ByteArray))) = S.size + 1 := by
    show (S ++ (⟨#[49]⟩ : ByteArray)).size = S.size + 1
    rw [ByteArray.size_append]; rfl
  have h2 : strLen (.string S) = S.size := rfl
  rw [h1, h2]; omega
theorem app_one {S : ByteArray} {l : List UInt8} (x : UInt8) (h : S.data.toList = l) : (S ++ (⟨#[x]⟩ : ByteArray)).data.toList = l ++ [x] := by simp [h]
theorem long_list (k : Nat) : (48 : UInt8) :: 46 :: List.replicate k 48 ++ [48] = 48 :: 46 :: List.replicate (k + 1) 48 := by
  rw [List.replicate_succ']; rfl
theorem long_ok {S : ByteArray} (W : World) (h : S.data.toList = 48 :: 46 :: List.replicate 60 48) : Calls Tryd.prog 49 #[.string S] W (DPR W false 0 60) := by
  have hz : S.size = 62 := by rw [size_list, h]; simp
  have hn : numL ([48] ++ List.replicate 60 48) = 0 := by decide
  have h1 := dparse_ok (W := W) (s := S) (b := false) (t := [48]) (u := List.replicate 60 48) (pt := true) (v := 0) ⟨⟨_, h, (fun _ => by decide), ⟨(fun _ => rfl), (fun h => by cases h), by decide⟩⟩⟩ (by omega) (by decide) (fun _ => by decide) (by decide) (by decide) hn
  rw [show (List.replicate 60 (48 : UInt8)).length = 60 from by decide] at h1
  exact h1
theorem long_bad {S : ByteArray} (W : World) (h : S.data.toList = 48 :: 46 :: List.replicate 61 48) : Calls Tryd.prog 49 #[.string S] W (DPE W 2) := by
  have hz : S.size = 63 := by rw [size_list, h]; simp
  exact dparse_bad (b := false) (t := [48]) (u := List.replicate 61 48) (pt := true) ⟨⟨_, h, (fun _ => by decide), ⟨(fun _ => rfl), (fun h => by cases h), by decide⟩⟩⟩ (by omega) (by decide)
theorem part_02 : partL 0 2 = [48, 48] := by
  unfold partL
  rw [show 10 ^ 2 + 0 % 10 ^ 2 = 100 from rfl, decL_lit (m := 100) (ds := [0, 0, 1]) (l := [49, 48, 48]) (by decide) (by intro x hx; simp at hx; subst hx; decide) rfl (by decide) (by decide)]
  rfl
theorem part_1253 : partL 125 3 = [49, 50, 53] := by
  unfold partL
  rw [show 10 ^ 3 + 125 % 10 ^ 3 = 1125 from rfl, decL_lit (m := 1125) (ds := [5, 2, 1, 1]) (l := [49, 49, 50, 53]) (by decide) (by intro x hx; simp at hx; subst hx; decide) rfl (by decide) (by decide)]
  rfl
theorem part_00 : partL 0 0 = [] := by
  unfold partL
  rw [show 10 ^ 0 + 0 % 10 ^ 0 = 1 from rfl, dec_1]; rfl
theorem dec_zero : decL 0 = [48] := by decide
theorem text_02 : decD false 0 2 = [48, 46, 48, 48] := by
  unfold decD
  rw [if_neg (by decide), part_02, show 0 / 10 ^ 2 = 0 from rfl, dec_zero]; rfl
theorem text_00 : decD false 0 0 = [48] := by
  unfold decD
  rw [if_pos rfl, show 0 / 10 ^ 0 = 0 from rfl, dec_zero]; rfl
theorem text_1253 : decD true 125 3 = [45, 48, 46, 49, 50, 53] := by
  unfold decD
  rw [part_1253, show 125 / 10 ^ 3 = 0 from rfl, dec_zero]; rfl
theorem short_02 : shortS 0 2 = 0 := by unfold shortS; rw [part_02]; decide
def r13 : Rat := mkRat 1 3
def r18 : Rat := mkRat (-1) 8
theorem r13_den : r13.den = 3 := by decide +kernel
theorem r18_den : r18.den = 8 := by decide +kernel
theorem r18_num : r18.num = -1 := by decide +kernel
theorem not_3 (k : Nat) : ¬ 3 ∣ 10 ^ k := by
  intro h
  have h1 := Nat.mod_eq_zero_of_dvd h
  rw [Nat.pow_mod, show 10 % 3 = 1 from rfl, Nat.one_pow] at h1
  exact absurd h1 (by decide)
theorem not_8 {k : Nat} (h : k < 3) : ¬ 8 ∣ 10 ^ k := by
  have hk : k = 0 ∨ k = 1 ∨ k = 2 := by omega
  rcases hk with rfl | rfl | rfl <;> decide
def ZRd (W : World) (sg : Bool) (z : Int) (e : Ending) (w' : World) : Prop := ∃ A c, e = .returned (.agg #[.bool sg, .slice A (dl z.natAbs) c]) ∧ ZA w' sg A (dl z.natAbs) c z ∧ Hid (Below W.heap.size W w')
theorem good_nilB (W W' : World) (_h : Bel W W') : Calls Tryd.prog 20 #[.agg #[.slice none 0 0]] W' (RetB W' true) := (good_nil (W := W')).mono fun _ _ h => ⟨h.1, Bel.of h.2⟩
theorem zero_nilB (W W' : World) (_h : Bel W W') : Calls Tryd.prog 101 #[.agg #[.slice none 0 0]] W' (RetB W' true) := dzero_h (m := 0) (nm_nil W' none 0)
theorem odd_good (W : World) : Calls Tryd.prog 52 #[.agg #[.bool true, .slice none 0 0, .int .i64 0]] W (RetB W false) := dgood_6 (good_nilB W) (zero_nilB W) (by decide) (by decide)
theorem low_good (W : World) : Calls Tryd.prog 52 #[.agg #[.bool false, .slice none 0 0, .int .i64 (-1)]] W (RetB W false) := dgood_2 (good_nilB W) (by decide)
theorem high_good {s : Int} (W : World) (hs : 60 < s) : Calls Tryd.prog 52 #[.agg #[.bool false, .slice none 0 0, .int .i64 s]] W (RetB W false) := dgood_3 (good_nilB W) (by omega) (by omega)
set_option maxHeartbeats 32000000 in
theorem decknown_walk (W : World) : Calls Tryd.prog 6 #[] W fun e w' => e = .returned (.bool true) ∧ Below W.heap.size W w' := by
  obtain ⟨va, hva⟩ : ∃ v : Nat, v = 0 := ⟨_, rfl⟩
  obtain ⟨vi, hvi⟩ : ∃ v : Nat, v = 125 := ⟨_, rfl⟩
  obtain ⟨z1, hz1⟩ : ∃ v : Int, v = 1 := ⟨_, rfl⟩
  obtain ⟨zm, hzm⟩ : ∃ v : Int, v = -1 := ⟨_, rfl⟩
  obtain ⟨n3, hn3⟩ : ∃ v : Nat, v = 3 := ⟨_, rfl⟩
  obtain ⟨n8, hn8⟩ : ∃ v : Nat, v = 8 := ⟨_, rfl⟩
  obtain ⟨s1, hs1⟩ : ∃ b, b = decide (z1 < 0) := ⟨_, rfl⟩
  obtain ⟨sm, hsm⟩ : ∃ b, b = decide (zm < 0) := ⟨_, rfl⟩
  have da : dl va ≤ 99999 := by rw [hva]; exact Nat.le_trans (dl_le (k := 1) (by decide)) (by decide)
  have di : dl vi ≤ 99999 := by rw [hvi]; exact Nat.le_trans (dl_le (k := 1) (by decide)) (by decide)
  have d3 : dl n3 ≤ 20000 := by rw [hn3]; exact Nat.le_trans (dl_le (k := 1) (by decide)) (by decide)
  have d8 : dl n8 ≤ 20000 := by rw [hn8]; exact Nat.le_trans (dl_le (k := 1) (by decide)) (by decide)
  have e1 : dl z1.natAbs ≤ 20000 := by rw [hz1]; exact Nat.le_trans (dl_le (k := 1) (by decide)) (by decide)
  have em : dl zm.natAbs ≤ 20000 := by rw [hzm]; exact Nat.le_trans (dl_le (k := 1) (by decide)) (by decide)
  have CL : Hid (∀ (W' : World) (S : ByteArray), Hid (S.data.toList = 48 :: 46 :: List.replicate 60 48) → Calls Tryd.prog 49 #[.string S] W' (DPR W' false va 60)) := fun W' S h => by rw [hva]; exact long_ok W' h.out
  have CL2 : Hid (∀ (W' : World) (S : ByteArray), Hid (S.data.toList = 48 :: 46 :: List.replicate 60 48) → Calls Tryd.prog 49 #[.string (S ++ (⟨#[48]⟩ : ByteArray))] W' (DPE W' 2)) := fun W' S h => long_bad W' (by rw [app_one 48 h.out]; exact long_list 60)
  have CM : Hid (∀ W', Calls Tryd.prog 49 #[.string ⟨#[45, 48, 46, 48, 48]⟩] W' (DPR W' false va 2)) := fun W' => by
    rw [hva]
    exact dparse_ok (b := true) (t := [48]) (u := [48, 48]) (pt := true) (v := 0) ⟨⟨[48, 46, 48, 48], rfl, (fun h => by cases h), ⟨(fun _ => rfl), (fun h => by cases h), by decide⟩⟩⟩ (by decide) (by decide) (fun _ => by decide) (by decide) (by decide) (by decide)
  have CH : Hid (∀ (W' : World) (S : ByteArray), 256 < S.size → Calls Tryd.prog 49 #[.string S] W' (DPE W' 11)) := fun W' S h => dparse_size h
  have CO1 : Hid (∀ W', Calls Tryd.prog 28 #[.int .i64 1] W' (ZRd W' s1 z1)) := fun W' => by rw [hs1, hz1]; exact zof_h (by decide) (by decide)
  have COm : Hid (∀ W', Calls Tryd.prog 28 #[.int .i64 (-1)] W' (ZRd W' sm zm)) := fun W' => by rw [hsm, hzm]; exact zof_h (by decide) (by decide)
  have CN3 : Hid (∀ W', Calls Tryd.prog 12 #[.int .u64 3] W' (NumR W' n3)) := fun W' => by rw [hn3]; exact of_h (v := 3) (by decide)
  have CN8 : Hid (∀ W', Calls Tryd.prog 12 #[.int .u64 8] W' (NumR W' n8)) := fun W' => by rw [hn8]; exact of_h (v := 8) (by decide)
  have CF1 : Hid (∀ W' B e B' e', ZA W' s1 B (dl z1.natAbs) e z1 → Nm W' B' (dl n3) e' n3 → Calls Tryd.prog 50 #[.agg #[.bool s1, .slice B (dl z1.natAbs) e, .slice B' (dl n3) e'], .int .i64 60] W' (DofN W' false)) := fun W' B e B' e' h1 h2 => dof_miss (r := r13) (lim := 60) h1 h2 (by rw [hn3]; decide) (by rw [hz1, hn3]; rfl) e1 d3 (by decide) (fun k _ => by rw [r13_den]; exact not_3 k)
  have CF2 : Hid (∀ W' B e B' e', ZA W' sm B (dl zm.natAbs) e zm → Nm W' B' (dl n8) e' n8 → Calls Tryd.prog 50 #[.agg #[.bool sm, .slice B (dl zm.natAbs) e, .slice B' (dl n8) e'], .int .i64 3] W' (DofR W' true vi 3)) := fun W' B e B' e' h1 h2 => by
    have h3 := dof_hit (r := r18) (lim := 3) (j := 3) (most := 3) h1 h2 (by rw [hn8]; decide) (by rw [hzm, hn8]; rfl) em d8 (by decide) (by decide) (by rw [r18_den]; decide) (fun k hk => by rw [r18_den]; exact not_8 hk)
    rw [r18_num, r18_den] at h3
    rw [hvi]
    exact h3
  have CF3 : Hid (∀ W' B e B' e', ZA W' sm B (dl zm.natAbs) e zm → Nm W' B' (dl n8) e' n8 → Calls Tryd.prog 50 #[.agg #[.bool sm, .slice B (dl zm.natAbs) e, .slice B' (dl n8) e'], .int .i64 2] W' (DofN W' false)) := fun W' B e B' e' h1 h2 => dof_miss (r := r18) (lim := 2) h1 h2 (by rw [hn8]; decide) (by rw [hzm, hn8]; rfl) em d8 (by decide) (fun k hk => by rw [r18_den]; exact not_8 (by omega))
  have CTd : Hid (∀ W' B e, Nm W' B (dl va) e va → Calls Tryd.prog 51 #[.agg #[.bool false, .slice B (dl va) e, .int .i64 2]] W' (DStr W' ⟨#[48, 46, 48, 48]⟩)) := fun W' B e h => (dtext_h (dx_can (b := false) (s := 2) h (by decide) (fun h => by cases h)).y da).mono fun _ _ h1 => dstr_of h1 (by rw [hva, text_02])
  have CTi : Hid (∀ W' B e, Nm W' B (dl vi) e vi → Calls Tryd.prog 51 #[.agg #[.bool true, .slice B (dl vi) e, .int .i64 3]] W' (DStr W' ⟨#[45, 48, 46, 49, 50, 53]⟩)) := fun W' B e h => (dtext_h (dx_can (b := true) (s := 3) h (by decide) (fun _ => by rw [hvi]; decide)).y di).mono fun _ _ h1 => dstr_of h1 (by rw [hvi, text_1253])
  have CTo : Hid (∀ W', Calls Tryd.prog 51 #[.agg #[.bool true, .slice none 0 0, .int .i64 0]] W' (DStr W' ⟨#[48]⟩)) := fun W' => (dtext_h (dy_no (fun W2 _ => odd_good W2)) (by rw [← hva]; exact da)).mono fun _ _ h1 => dstr_of h1 (by rw [text_00])
  have CTs : Hid (∀ W' B e, Nm W' B (dl va) e va → Calls Tryd.prog 51 #[.agg #[.bool false, .slice B (dl va) e, .int .i64 0]] W' (DStr W' ⟨#[48]⟩)) := fun W' B e h => (dtext_h (dx_can (b := false) (s := 0) h (by decide) (fun h => by cases h)).y da).mono fun _ _ h1 => dstr_of h1 (by rw [hva, text_00])
  have CSh : Hid (∀ W' B e, Nm W' B (dl va) e va → Calls Tryd.prog 54 #[.agg #[.bool false, .slice B (dl va) e, .int .i64 2]] W' (ShR W' false va 0)) := fun W' B e h => by
    have h1 := short_h (dx_can (b := false) (s := 2) h (by decide) (fun h => by cases h)).y da
    rwa [show shortS va 2 = 0 by rw [hva, short_02], show va / 10 ^ (2 - 0) = va by rw [hva]] at h1
  have CGo : Hid (∀ W', Calls Tryd.prog 52 #[.agg #[.bool true, .slice none 0 0, .int .i64 0]] W' (RetB W' false)) := fun W' => odd_good W'
  have CGl : Hid (∀ W', Calls Tryd.prog 52 #[.agg #[.bool false, .slice none 0 0, .int .i64 (-1)]] W' (RetB W' false)) := fun W' => low_good W'
  have CGh : Hid (∀ W', Calls Tryd.prog 52 #[.agg #[.bool false, .slice none 0 0, .int .i64 61]] W' (RetB W' false)) := fun W' => high_good W' (by decide)
  have CPt : Hid (∀ W', Calls Tryd.prog 53 #[.agg #[.bool false, .slice none 0 0, .int .i64 99]] W' (DStr W' ⟨#[]⟩)) := fun W' => (part_h (dy_no (fun W2 _ => high_good W2 (by decide))) (by rw [← hva]; exact da)).mono fun _ _ h1 => dstr_of h1 (by rw [part_00])
  clear hva hvi hz1 hzm hn3 hn8 hs1 hsm da di d3 d8 e1 em
  have HB := Bel.refl W
  go_enter Tryd.func6, Tryd.ntmps6
  go_wp2_with (first | (go_at_call 48; (with_reducible refine (awake4_any _).mono ?_); rintro e w1 ⟨rfl, hbk⟩; replace HB := HB.up hbk) | fail)
  obtain ⟨W1, hW1⟩ : ∃ X, X = w1.alloc (.cells #[.string (⟨#[]⟩ : ByteArray), .string (⟨#[45]⟩ : ByteArray), .string (⟨#[46, 53]⟩ : ByteArray), .string (⟨#[53, 46]⟩ : ByteArray), .string (⟨#[49, 46, 50, 46, 51]⟩ : ByteArray), .string (⟨#[43, 49]⟩ : ByteArray), .string (⟨#[49, 101, 53]⟩ : ByteArray), .string (⟨#[32, 49]⟩ : ByteArray), .string (⟨#[45, 45, 49]⟩ : ByteArray)] 9) := ⟨_, rfl⟩
  rw [← hW1]
  obtain ⟨pl, hpl⟩ : ∃ p, p = w1.heap.size := ⟨_, rfl⟩
  rw [← hpl]
  have HL1 : At W1 pl strs9 := by rw [hW1, hpl]; exact at_new0 _ strs9 _
  replace HB : Bel W W1 := by rw [hW1]; exact HB.al _
  clear hW1 hpl
  go_loopw [2] (fun iv w' => ∃ k : Nat, k ≤ 9 ∧ iv = .int .i64 (k : Int) ∧ Hid (Bel W1 w')) (fun iv _ => 9 - (intOf iv).toNat)
  case atStart => exact ⟨0, Nat.zero_le _, rfl, Bel.refl W1⟩
  case round =>
    obtain ⟨k, hk, rfl, HW0⟩ := hrel
    have HW : Bel W1 wr := HW0
    clear HW0
    by_cases hlt : k < 9
    · obtain ⟨S, hS, hC⟩ := bad_strs hlt
      have CP := hide hC
      have hcell := ((At.up HL1 HW.hid).all k _ hS).1
      have hk0 : (0 : Int) ≤ (k : Int) := by omega
      have hk9 : (k : Int) < 9 := by omega
      have hw : IntKind.i64.wrap ((k : Int) + 1) = (k : Int) + 1 := IntWalk.i64_in _ (by omega)
      clear hC hS
      go_wp2_with (first | (go_at_call 49; (with_reducible refine (CP.out _).mono ?_); rintro e w4 ⟨rfl, hbk⟩; replace HW := HW.up hbk) | fail)
      go_roundw
      case rel => exact ⟨k + 1, by omega, by go_num, HW.al _⟩
      case measure => simp [intOf]; omega
    · obtain rfl : k = 9 := by omega
      obtain ⟨W2, hW2⟩ : ∃ X, X = wr := ⟨_, rfl⟩
      replace HB : Bel W W2 := by rw [hW2]; exact HB.up HW.hid
      rw [← hW2]
      clear hW2 HW HL1 hk hlt
      go_wp2_with fail
      go_loopw [5, 6] (fun sv iv w' => ∃ (k : Nat) (S : ByteArray), k ≤ 60 ∧ sv = .string S ∧ Hid (S.data.toList = 48 :: 46 :: List.replicate k 48) ∧ iv = .int .i64 (k : Int) ∧ Hid (Bel W2 w')) (fun sv iv _ => 60 - (intOf iv).toNat)
      case atStart => exact ⟨0, ⟨#[48, 46]⟩, Nat.zero_le _, rfl, rfl, rfl, Bel.refl W2⟩
      case round =>
        obtain ⟨k, S, hk, rfl, hS, rfl, HW0⟩ := hrel
        have HW : Bel W2 wr := HW0
        clear HW0
        have hsz : S.size = k + 2 := by rw [size_list, hS.out]; simp
        have q1 : ¬ 9223372036854775807 < S.size + 1 := by omega
        have q2 : S.size + 1 ≤ 9223372036854775807 := by omega
        clear hsz
        by_cases hlt : k < 60
        · have hk60 : (k : Int) < 60 := by omega
          have hw : IntKind.i64.wrap ((k : Int) + 1) = (k : Int) + 1 := IntWalk.i64_in _ (by omega)
          go_wp2
          go_roundw
          case rel => exact ⟨k + 1, _, by omega, rfl, by unfold Hid; rw [app_one 48 hS.out]; exact long_list k, by go_num, HW⟩
          case measure => simp [intOf]; omega
        · obtain rfl : k = 60 := by omega
          replace HB : Bel W wr := HB.up HW.hid
          clear HW hk hlt
          go_wp2_with (first | (go_at_call 49; (with_reducible refine (CL.out _ _ hS).mono ?_); rintro e w5 ⟨Aa, ca, rfl, na, hbk⟩; replace HB := HB.up hbk) | (go_at_call 49; (with_reducible refine (CL2.out _ _ hS).mono ?_); rintro e w6 ⟨rfl, hbk⟩; (with_reducible (have HA : At w6 w5.heap.size [.bool false, .slice Aa (dl va) ca, .int .i64 60] := At.up (at_new0 _ _ _) hbk; replace HB := (HB.al _).up hbk))) | (go_at_call 49; (with_reducible refine (CM.out _).mono ?_); rintro e w7 ⟨Ad, cd, rfl, nd, hbk⟩; (with_reducible (replace HB := (HB.al _).up hbk; replace HA := (HA.al _).up hbk))) | fail)
          obtain ⟨W3, hW3⟩ : ∃ X, X = w7.alloc (.cells #[.bool false, .slice Ad (dl va) cd, .int .i64 2] 76) := ⟨_, rfl⟩
          rw [← hW3]
          have HD : At W3 w7.heap.size [.bool false, .slice Ad (dl va) cd, .int .i64 2] := by rw [hW3]; exact at_new0 _ _ _
          replace HA : At W3 w5.heap.size [.bool false, .slice Aa (dl va) ca, .int .i64 60] := by rw [hW3]; exact HA.al _
          replace HB : Bel W W3 := by rw [hW3]; exact HB.al _
          replace nd : Nm W3 Ad (dl va) cd va := by rw [hW3]; exact nd.al _
          clear hW3 q1 q2 hS
          go_loopw [13] (fun sv w' => ∃ (k : Nat) (S : ByteArray), k ≤ 257 ∧ sv = .string S ∧ Hid (S.size = k) ∧ Hid (Bel W3 w')) (fun sv _ => 257 - strLen sv)
          case atStart => exact ⟨0, _, Nat.zero_le _, rfl, rfl, Bel.refl W3⟩
          case round =>
            obtain ⟨k, S, hk, rfl, hS, HW0⟩ := hrel
            have HW : Bel W3 wr := HW0
            clear HW0
            have hsz : S.size = k := hS.out
            by_cases hlt : k < 257
            · have q1 : ¬ 9223372036854775807 < S.size + 1 := by omega
              have q2 : S.size + 1 ≤ 9223372036854775807 := by omega
              have q3 : (S.size : Int) < 257 := by omega
              have HLT : Hid (S.size < 257) := by unfold Hid; omega
              go_wp2
              go_roundw
              case rel => exact ⟨k + 1, _, by omega, rfl, by unfold Hid; rw [ByteArray.size_append, hS.out]; rfl, HW⟩
              case measure => exact str_meas HLT.out
            · have q3 : ¬ (S.size : Int) < 257 := by omega
              have q4 : 256 < S.size := by omega
              replace HB : Bel W wr := HB.up HW.hid
              replace HA := HA.up HW.hid
              replace HD := HD.up HW.hid
              replace nd := nd.up HW.hid
              clear HW hk hlt hS hsz
              go_wp2_with (first | (go_at_call 49; (with_reducible refine (CH.out _ _ q4).mono ?_); rintro e u1 ⟨rfl, hbk⟩; (with_reducible (replace HB := HB.up hbk; replace HA := HA.up hbk; replace HD := HD.up hbk; replace nd := nd.up hbk))) | (go_at_call 28; (with_reducible refine (CO1.out _).mono ?_); rintro e u2 ⟨Bz, cz, rfl, zz, hbk⟩; (with_reducible (replace HB := (HB.al _).up hbk; replace HA := (HA.al _).up hbk; replace HD := (HD.al _).up hbk; replace nd := (nd.al _).up hbk))) | (go_at_call 12; (with_reducible refine (CN3.out _).mono ?_); rintro e u3 ⟨Bn, cn3, rfl, nn, hbk⟩; (with_reducible (replace HB := HB.up hbk; replace HA := HA.up hbk; replace HD := HD.up hbk; replace nd := nd.up hbk; replace zz := zz.up hbk))) | (go_at_call 50; (with_reducible refine (CF1.out _ _ _ _ _ zz nn).mono ?_); rintro e u4 ⟨rfl, hbk⟩; (with_reducible (replace HB := HB.up hbk; replace HA := HA.up hbk; replace HD := HD.up hbk; replace nd := nd.up hbk))) | (go_at_call 28; (with_reducible refine (COm.out _).mono ?_); rintro e u5 ⟨Bz, cz, rfl, zz, hbk⟩; (with_reducible (have HG : At u5 u4.heap.size [.bool false, .slice none 0 0, .int .i64 0] := At.up (at_new0 _ _ _) hbk; replace HB := (HB.al _).up hbk; replace HA := (HA.al _).up hbk; replace HD := (HD.al _).up hbk; replace nd := (nd.al _).up hbk))) | (go_at_call 12; (with_reducible refine (CN8.out _).mono ?_); rintro e u6 ⟨Bn, cn3, rfl, nn, hbk⟩; (with_reducible (replace HB := HB.up hbk; replace HA := HA.up hbk; replace HD := HD.up hbk; replace nd := nd.up hbk; replace HG := HG.up hbk; replace zz := zz.up hbk)); (try (with_reducible replace HI := HI.up hbk)); (try (with_reducible replace ni := ni.up hbk))) | (go_at_call 50; (with_reducible refine (CF2.out _ _ _ _ _ zz nn).mono ?_); rintro e u7 ⟨Ai, ci, rfl, ni, hbk⟩; (with_reducible (replace HB := HB.up hbk; replace HA := HA.up hbk; replace HD := HD.up hbk; replace nd := nd.up hbk; replace HG := HG.up hbk))) | (go_at_call 28; (with_reducible refine (COm.out _).mono ?_); rintro e u8 ⟨Bz, cz, rfl, zz, hbk⟩; (with_reducible (have HI : At u8 u7.heap.size [.bool true, .slice Ai (dl vi) ci, .int .i64 3] := At.up (at_new0 _ _ _) hbk; replace HB := (HB.al _).up hbk; replace HA := (HA.al _).up hbk; replace HD := (HD.al _).up hbk; replace nd := (nd.al _).up hbk; replace HG := (HG.al _).up hbk; replace ni := (ni.al _).up hbk))) | (go_at_call 50; (with_reducible refine (CF3.out _ _ _ _ _ zz nn).mono ?_); rintro e ua ⟨rfl, hbk⟩; (with_reducible (replace HB := HB.up hbk; replace HA := HA.up hbk; replace HD := HD.up hbk; replace nd := nd.up hbk; replace HG := HG.up hbk; replace HI := HI.up hbk; replace ni := ni.up hbk)); have ha_0 := HA.c0; have ha_1 := HA.c1; have ha_2 := HA.c2; have ha_l := HA.lt; have hd_0 := HD.c0; have hd_1 := HD.c1; have hd_2 := HD.c2; have hd_l := HD.lt; have hg_0 := HG.c0; have hg_1 := HG.c1; have hg_2 := HG.c2; have hg_l := HG.lt; have hi_0 := HI.c0; have hi_1 := HI.c1; have hi_2 := HI.c2; have hi_l := HI.lt) | (go_at_call 51; (with_reducible refine (CTd.out _ _ _ ((nd.al _).al _)).mono ?_); rintro e x1 ⟨rfl, hbk⟩; (with_reducible (have HO : At x1 (ua.heap.size + 1) [.bool true, .slice none 0 0, .int .i64 0] := At.up (at_new1 _ _ _ _) hbk; replace HB := ((HB.al _).al _).up hbk; replace HA := ((HA.al _).al _).up hbk; replace HD := ((HD.al _).al _).up hbk; replace HG := ((HG.al _).al _).up hbk; replace HI := ((HI.al _).al _).up hbk; replace nd := ((nd.al _).al _).up hbk; replace ni := ((ni.al _).al _).up hbk)); clear ha_0 ha_1 ha_2 ha_l hd_0 hd_1 hd_2 hd_l hg_0 hg_1 hg_2 hg_l hi_0 hi_1 hi_2 hi_l; have ha_0 := HA.c0; have ha_1 := HA.c1; have ha_2 := HA.c2; have ha_l := HA.lt; have hd_0 := HD.c0; have hd_1 := HD.c1; have hd_2 := HD.c2; have hd_l := HD.lt; have hg_0 := HG.c0; have hg_1 := HG.c1; have hg_2 := HG.c2; have hg_l := HG.lt; have hi_0 := HI.c0; have hi_1 := HI.c1; have hi_2 := HI.c2; have hi_l := HI.lt; have ho_0 := HO.c0; have ho_1 := HO.c1; have ho_2 := HO.c2; have ho_l := HO.lt) | (go_at_call 51; (with_reducible refine (CTi.out _ _ _ ni).mono ?_); rintro e x2 ⟨rfl, hbk⟩; (with_reducible (replace HB := HB.up hbk; replace HA := HA.up hbk; replace HD := HD.up hbk; replace HG := HG.up hbk; replace HI := HI.up hbk; replace HO := HO.up hbk; replace nd := nd.up hbk; replace ni := ni.up hbk)); clear ha_0 ha_1 ha_2 ha_l hd_0 hd_1 hd_2 hd_l hg_0 hg_1 hg_2 hg_l hi_0 hi_1 hi_2 hi_l ho_0 ho_1 ho_2 ho_l; have ha_0 := HA.c0; have ha_1 := HA.c1; have ha_2 := HA.c2; have ha_l := HA.lt; have hd_0 := HD.c0; have hd_1 := HD.c1; have hd_2 := HD.c2; have hd_l := HD.lt; have hg_0 := HG.c0; have hg_1 := HG.c1; have hg_2 := HG.c2; have hg_l := HG.lt; have hi_0 := HI.c0; have hi_1 := HI.c1; have hi_2 := HI.c2; have hi_l := HI.lt; have ho_0 := HO.c0; have ho_1 := HO.c1; have ho_2 := HO.c2; have ho_l := HO.lt) | (go_at_call 52; (with_reducible refine (CGo.out _).mono ?_); rintro e x3 ⟨rfl, hbk⟩; replace hbk := Bel.hid hbk; (with_reducible (replace HB := HB.up hbk; replace HA := HA.up hbk; replace HD := HD.up hbk; replace HG := HG.up hbk; replace HI := HI.up hbk; replace HO := HO.up hbk; replace nd := nd.up hbk; replace ni := ni.up hbk)); clear ha_0 ha_1 ha_2 ha_l hd_0 hd_1 hd_2 hd_l hg_0 hg_1 hg_2 hg_l hi_0 hi_1 hi_2 hi_l ho_0 ho_1 ho_2 ho_l; have ha_0 := HA.c0; have ha_1 := HA.c1; have ha_2 := HA.c2; have ha_l := HA.lt; have hd_0 := HD.c0; have hd_1 := HD.c1; have hd_2 := HD.c2; have hd_l := HD.lt; have hg_0 := HG.c0; have hg_1 := HG.c1; have hg_2 := HG.c2; have hg_l := HG.lt; have hi_0 := HI.c0; have hi_1 := HI.c1; have hi_2 := HI.c2; have hi_l := HI.lt; have ho_0 := HO.c0; have ho_1 := HO.c1; have ho_2 := HO.c2; have ho_l := HO.lt) | (go_at_call 52; (with_reducible refine (CGl.out _).mono ?_); rintro e x4 ⟨rfl, hbk⟩; replace hbk := Bel.hid hbk; (with_reducible (replace HB := HB.up hbk; replace HA := HA.up hbk; replace HD := HD.up hbk; replace HG := HG.up hbk; replace HI := HI.up hbk; replace HO := HO.up hbk; replace nd := nd.up hbk; replace ni := ni.up hbk)); clear ha_0 ha_1 ha_2 ha_l hd_0 hd_1 hd_2 hd_l hg_0 hg_1 hg_2 hg_l hi_0 hi_1 hi_2 hi_l ho_0 ho_1 ho_2 ho_l; have ha_0 := HA.c0; have ha_1 := HA.c1; have ha_2 := HA.c2; have ha_l := HA.lt; have hd_0 := HD.c0; have hd_1 := HD.c1; have hd_2 := HD.c2; have hd_l := HD.lt; have hg_0 := HG.c0; have hg_1 := HG.c1; have hg_2 := HG.c2; have hg_l := HG.lt; have hi_0 := HI.c0; have hi_1 := HI.c1; have hi_2 := HI.c2; have hi_l := HI.lt; have ho_0 := HO.c0; have ho_1 := HO.c1; have ho_2 := HO.c2; have ho_l := HO.lt) | (go_at_call 52; (with_reducible refine (CGh.out _).mono ?_); rintro e x5 ⟨rfl, hbk⟩; replace hbk := Bel.hid hbk; (with_reducible (replace HB := HB.up hbk; replace HA := HA.up hbk; replace HD := HD.up hbk; replace HG := HG.up hbk; replace HI := HI.up hbk; replace HO := HO.up hbk; replace nd := nd.up hbk; replace ni := ni.up hbk)); clear ha_0 ha_1 ha_2 ha_l hd_0 hd_1 hd_2 hd_l hg_0 hg_1 hg_2 hg_l hi_0 hi_1 hi_2 hi_l ho_0 ho_1 ho_2 ho_l; have ha_0 := HA.c0; have ha_1 := HA.c1; have ha_2 := HA.c2; have ha_l := HA.lt; have hd_0 := HD.c0; have hd_1 := HD.c1; have hd_2 := HD.c2; have hd_l := HD.lt; have hg_0 := HG.c0; have hg_1 := HG.c1; have hg_2 := HG.c2; have hg_l := HG.lt; have hi_0 := HI.c0; have hi_1 := HI.c1; have hi_2 := HI.c2; have hi_l := HI.lt; have ho_0 := HO.c0; have ho_1 := HO.c1; have ho_2 := HO.c2; have ho_l := HO.lt) | (go_at_call 51; (with_reducible refine (CTo.out _).mono ?_); rintro e x6 ⟨rfl, hbk⟩; (with_reducible (replace HB := HB.up hbk; replace HA := HA.up hbk; replace HD := HD.up hbk; replace HG := HG.up hbk; replace HI := HI.up hbk; replace HO := HO.up hbk; replace nd := nd.up hbk; replace ni := ni.up hbk)); clear ha_0 ha_1 ha_2 ha_l hd_0 hd_1 hd_2 hd_l hg_0 hg_1 hg_2 hg_l hi_0 hi_1 hi_2 hi_l ho_0 ho_1 ho_2 ho_l; have ha_0 := HA.c0; have ha_1 := HA.c1; have ha_2 := HA.c2; have ha_l := HA.lt; have hd_0 := HD.c0; have hd_1 := HD.c1; have hd_2 := HD.c2; have hd_l := HD.lt; have hg_0 := HG.c0; have hg_1 := HG.c1; have hg_2 := HG.c2; have hg_l := HG.lt; have hi_0 := HI.c0; have hi_1 := HI.c1; have hi_2 := HI.c2; have hi_l := HI.lt; have ho_0 := HO.c0; have ho_1 := HO.c1; have ho_2 := HO.c2; have ho_l := HO.lt) | (go_at_call 53; (with_reducible refine (CPt.out _).mono ?_); rintro e x7 ⟨rfl, hbk⟩; (with_reducible (replace HB := HB.up hbk; replace HA := HA.up hbk; replace HD := HD.up hbk; replace HG := HG.up hbk; replace HI := HI.up hbk; replace HO := HO.up hbk; replace nd := nd.up hbk; replace ni := ni.up hbk)); clear ha_0 ha_1 ha_2 ha_l hd_0 hd_1 hd_2 hd_l hg_0 hg_1 hg_2 hg_l hi_0 hi_1 hi_2 hi_l ho_0 ho_1 ho_2 ho_l; have ha_0 := HA.c0; have ha_1 := HA.c1; have ha_2 := HA.c2; have ha_l := HA.lt; have hd_0 := HD.c0; have hd_1 := HD.c1; have hd_2 := HD.c2; have hd_l := HD.lt; have hg_0 := HG.c0; have hg_1 := HG.c1; have hg_2 := HG.c2; have hg_l := HG.lt; have hi_0 := HI.c0; have hi_1 := HI.c1; have hi_2 := HI.c2; have hi_l := HI.lt; have ho_0 := HO.c0; have ho_1 := HO.c1; have ho_2 := HO.c2; have ho_l := HO.lt) | (go_at_call 54; (with_reducible refine (CSh.out _ _ _ nd).mono ?_); rintro e x8 ⟨As, cs, rfl, ns, hbk⟩; (with_reducible (replace HB := HB.up hbk; replace HA := HA.up hbk; replace HD := HD.up hbk; replace HG := HG.up hbk; replace HI := HI.up hbk; replace HO := HO.up hbk; replace nd := nd.up hbk; replace ni := ni.up hbk)); clear ha_0 ha_1 ha_2 ha_l hd_0 hd_1 hd_2 hd_l hg_0 hg_1 hg_2 hg_l hi_0 hi_1 hi_2 hi_l ho_0 ho_1 ho_2 ho_l; have ha_0 := HA.c0; have ha_1 := HA.c1; have ha_2 := HA.c2; have ha_l := HA.lt; have hd_0 := HD.c0; have hd_1 := HD.c1; have hd_2 := HD.c2; have hd_l := HD.lt; have hg_0 := HG.c0; have hg_1 := HG.c1; have hg_2 := HG.c2; have hg_l := HG.lt; have hi_0 := HI.c0; have hi_1 := HI.c1; have hi_2 := HI.c2; have hi_l := HI.lt; have ho_0 := HO.c0; have ho_1 := HO.c1; have ho_2 := HO.c2; have ho_l := HO.lt) | (go_at_call 51; (with_reducible refine (CTs.out _ _ _ ns).mono ?_); rintro e x9 ⟨rfl, hbk⟩; (with_reducible (replace HB := HB.up hbk; replace HA := HA.up hbk; replace HD := HD.up hbk; replace HG := HG.up hbk; replace HI := HI.up hbk; replace HO := HO.up hbk; replace nd := nd.up hbk; replace ni := ni.up hbk)); clear ha_0 ha_1 ha_2 ha_l hd_0 hd_1 hd_2 hd_l hg_0 hg_1 hg_2 hg_l hi_0 hi_1 hi_2 hi_l ho_0 ho_1 ho_2 ho_l; have ha_0 := HA.c0; have ha_1 := HA.c1; have ha_2 := HA.c2; have ha_l := HA.lt; have hd_0 := HD.c0; have hd_1 := HD.c1; have hd_2 := HD.c2; have hd_l := HD.lt; have hg_0 := HG.c0; have hg_1 := HG.c1; have hg_2 := HG.c2; have hg_l := HG.lt; have hi_0 := HI.c0; have hi_1 := HI.c1; have hi_2 := HI.c2; have hi_l := HI.lt; have ho_0 := HO.c0; have ho_1 := HO.c1; have ho_2 := HO.c2; have ho_l := HO.lt) | fail)
              go_ret
              exact ⟨rfl, HB⟩
end Go.Proofs.YteieelgdiccppaaDoor
