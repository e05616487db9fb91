/- Several texts in one, each with its own sentence and conditions. -/
import Derived.Test.YteahcbeohopdlaaGreatDoorGRqc7
import Derived.Deep.LoopGhost
import Derived.Deep.RegionHeld3
import Derived.Test.YteahcbeohopdlaaGreatDoorGRqc1
import Derived.WalkSpells
import Derived.Lib.Strings
section
/- The document's own numbers: Small, Add. Conditions: at most 100000 fours of digits. -/
open Go.RowKit
set_option maxRecDepth 100000
namespace Go.Proofs.YteahcbeohopdlaaGreatDoor
theorem row_rd {f : Nat → Value} {t : TypeId} {w : World} {base : Nat} {v : Value} {dd : List Nat} (h : w.ownsRow base t 1 v dd.length (dd.map f)) : ∃ A c, v = .slice A dd.length c ∧ dd.length ≤ c ∧ Rd f w w.heap.size A dd := by
  have h' := h
  rcases h.2 with ⟨rfl, h0⟩ | ⟨g, cap, cur, rfl, _, _, hn, _⟩
  · have := List.eq_nil_of_length_eq_zero h0
    subst this
    exact ⟨none, 0, rfl, Nat.le_refl _, Rd.nil⟩
  · exact ⟨_, cap, rfl, hn, fun _ => ⟨_, rfl, (h'.lt g rfl).2, fun j x hx => World.ownsRow.cells h' rfl j _ (by rw [List.getElem?_map, hx]; rfl)⟩⟩
theorem app_below {w wr w1 : World} {base n : Nat} {t : TypeId} {dv : Value} {xs : List Value} {o : Obj} (hown : wr.ownsRow base t 1 dv n xs) (hbel : Below w.heap.size w wr) (hg : w.heap.size ≤ base) (hgrow : (wr.alloc o).grownBy w1 dv.ownBlock) : Below w.heap.size w w1 :=
  (hbel.alloc hbel.size _).grown hgrow (by have := hbel.size; simp; omega) (fun k hk => by have := (hown.lt k hk).1; omega)
theorem dq_u64 {n : Nat} (h : n < 100000000000000000000) : dq n ≤ 5 := by
  rcases Nat.eq_zero_or_pos n with rfl | h0
  · unfold dq; rw [digs_zero]; simp
  · have h1 := pow_le_of_digs (b := D4) (by decide) h0
    have h2 : D4 ^ (dq n - 1) < D4 ^ 5 := Nat.lt_of_le_of_lt h1 (by rw [D4_eq]; omega)
    have h3 := (Nat.pow_lt_pow_iff_right (a := D4) (by decide)).1 h2
    omega
set_option maxHeartbeats 1000000 in
theorem Small_any {n : Nat} {w : World} (hn : n < 18446744073709551616) : Calls Tryz.prog 77 #[.int .u64 (n : Int)] w (RefPost w n) := by
  have HQ : Hid (dq n ≤ 5) := dq_u64 (by omega)
  obtain ⟨i0, hi0, hz0, hz1, hz2⟩ := info_parts Tryz.infoInt
  have I0 := hide hi0
  have Z0 := hide hz0
  have Z1 := hide hz1
  have Z2 := hide hz2
  have HN := hide hn
  clear hi0 hz0 hz1 hz2 hn
  go_enter Tryz.func77, Tryz.ntmps77
  go_wp2
  go_loopw [0, 3] (fun nv dv wr => ∃ (v : Nat) (dd : List Nat), nv = .int .u64 (v : Int) ∧ Hid (v < 18446744073709551616) ∧ Hid (dd ++ digs D4 v = digs D4 n) ∧ Hid (wr.ownsRow w.heap.size 3 1 dv dd.length (dd.map I64)) ∧ Hid (Below w.heap.size w wr))
    (fun nv _ _ => (intOf nv).toNat)
  case atStart => exact ⟨n, [], rfl, HN, rfl, World.ownsRow_nil _ _ _ _, Below.refl _ _⟩
  case round =>
    obtain ⟨v, dd, rfl, hvn, hdd, hown, hbel⟩ := hrel
    by_cases h0 : v = 0
    · subst h0
      have HE : Hid (dd = digs D4 n) := by have := hdd.out; rw [digs_zero, List.append_nil] at this; exact this
      go_wp2
      go_ret
      obtain ⟨A, c, rfl, hc, hr⟩ := row_rd hown.out
      rw [HE.out] at hr hc ⊢
      exact ⟨A, c, rfl, ⟨hc, hr⟩, hbel⟩
    · have hv : 0 < v := by omega
      have HD : Hid ((dd ++ [v % 10000]) ++ digs D4 (v / 10000) = digs D4 n) := by
        have := hdd.out
        rw [digs_pos (by decide) hv] at this
        unfold Hid
        rw [← this, List.append_assoc]; rfl
      have hlen : dd.length ≤ 5 := by
        have := congrArg List.length hdd.out
        rw [List.length_append] at this
        have h5 : (digs D4 n).length ≤ 5 := HQ.out
        omega
      have H63 : Hid (dd.length + 1 ≤ maxLen) := by simp only [maxLen, Hid]; omega
      have HB : Hid (w.heap.size ≤ (wr.alloc (.cells #[.int .i64 ((v : Int) % 10000)] 3)).heap.size) := by have := hbel.out.size; simp [Hid]; omega
      have HE : Hid (IntKind.u64.wrap ((v : Int) / 10000) = ((v / 10000 : Nat) : Int)) := by
        have h1 := hvn.out
        unfold Hid
        rw [show ((v : Int) / 10000) = ((v / 10000 : Nat) : Int) from rfl, u64_nat (by omega)]
      clear h0
      go_wp2_with (first | (at_builtin; go_must (refine wpList_append_own _ rfl (.tmp 6) (.tmp 10) 41 rfl w.heap.size 3 i0 (.int .i64 0) 1 8 Tryz.underlying41 I0.out Z0.out Z1.out Z2.out rfl (by decide) _ _ _ rfl (hown.out.alloc _) ⟨wr.heap.size, 0, none⟩ 1 1 [.int .i64 ((v : Int) % 10000)] rfl rfl (cell_one_new _ _ _) (by intro u hu; simp at hu; subst hu; rfl) H63.out (by omega) HB.out ?_; intro v2 w3 hown' hgrow hnil)))
      go_roundw
      case rel => exact ⟨v / 10000, dd ++ [v % 10000], by rw [HE.out], by have := hvn.out; unfold Hid; omega, HD, by unfold Hid; rw [List.length_append, List.map_append]; exact hown', app_below hown.out hbel.out (Nat.le_refl _) hgrow⟩
      case measure => rw [HE.out]; simp only [intOf]; omega
theorem val_take_getD (b : Nat) (L : List Nat) (i : Nat) : val b (L.take (i + 1)) = val b (L.take i) + b ^ i * (L[i]?.getD 0) := by
  rcases Nat.lt_or_ge i L.length with h | h
  · rw [val_take_succ b (List.getElem?_eq_getElem h), List.getElem?_eq_getElem h]; rfl
  · rw [val_take_more b h, List.getElem?_eq_none h]; rfl
theorem getD_lt {L : List Nat} (h : Good4 L) (i : Nat) : L[i]?.getD 0 ≤ 9999 := by
  rcases Nat.lt_or_ge i L.length with h1 | h1
  · rw [List.getElem?_eq_getElem h1]
    have := h _ (List.getElem_mem h1)
    rw [D4_eq] at this
    show L[i] ≤ 9999; omega
  · rw [List.getElem?_eq_none h1]; exact Nat.zero_le _
theorem lohi4 (t : Nat) : t % D4 + D4 * (t / D4) = t := Nat.mod_add_div t D4
set_option maxHeartbeats 2000000 in
theorem rAdd_any {A A' : Option Addr} {m n c c' : Nat} {w : World} (h : RN w w.heap.size A c m) (h' : RN w w.heap.size A' c' n) (hl : dq m ≤ 100000) (hl' : dq n ≤ 100000) :
    Calls Tryz.prog 100 #[.slice A (dq m) c, .slice A' (dq n) c'] w (RefPost w (m + n)) := by
  have HX := hide h
  have HY := hide h'
  obtain ⟨i0, hi0, hz0, hz1, hz2⟩ := info_parts Tryz.infoInt
  have I0 := hide hi0
  have Z0 := hide hz0
  have Z1 := hide hz1
  have Z2 := hide hz2
  clear hi0 hz0 hz1 hz2 h h'
  go_enter Tryz.func100, Tryz.ntmps100
  go_wp2
  go_loopw [5, 6, 7] (fun dv cv iv wr => ∃ (i cr : Nat) (dd : List Nat), i ≤ dq m + dq n + 1 ∧ cr ≤ 1 ∧ Hid (dq m ≤ i ∧ dq n ≤ i ∧ i = dq m + dq n + 1 → cr = 0) ∧ Hid (dq m < i ∧ dq n < i → cr = 0) ∧ cv = .int .i64 (cr : Int) ∧ iv = .int .i64 (i : Int) ∧ Hid (dd.length = i) ∧ Hid (Good4 dd) ∧
      Hid (val D4 dd + D4 ^ i * cr = val D4 ((digs D4 m).take i) + val D4 ((digs D4 n).take i)) ∧ Hid (wr.ownsRow w.heap.size 3 1 dv dd.length (dd.map I64)) ∧ Hid (Below w.heap.size w wr))
    (fun _ _ iv _ => dq m + dq n + 2 - (intOf iv).toNat)
  case atStart => exact ⟨0, 0, [], by omega, by omega, fun _ => rfl, fun _ => rfl, rfl, rfl, rfl, by intro x hx; simp at hx, by simp [Hid, val], World.ownsRow_nil _ _ _ _, Below.refl _ _⟩
  case round =>
    obtain ⟨i, cr, dd, hi, hcr, hc1, hc2, rfl, rfl, hdl, hdg, hval, hown, hbel⟩ := hrel
    by_cases hgo : i < dq m ∨ i < dq n ∨ 0 < cr
    · obtain ⟨x, hx⟩ : ∃ x, x = (digs D4 m)[i]?.getD 0 := ⟨_, rfl⟩
      obtain ⟨y, hy⟩ : ∃ y, y = (digs D4 n)[i]?.getD 0 := ⟨_, rfl⟩
      have hx9 : x ≤ 9999 := by rw [hx]; exact getD_lt (good4_digs m) i
      have hy9 : y ≤ 9999 := by rw [hy]; exact getD_lt (good4_digs n) i
      have CX := hide (at_any (i := i) (c := c) (show dq m = (digs D4 m).length from rfl) (HX.out.below hbel.out).2)
      have CY := hide (at_any (i := i) (c := c') (show dq n = (digs D4 n).length from rfl) (HY.out.below hbel.out).2)
      have RX := hide (val_take_getD D4 (digs D4 m) i)
      have RY := hide (val_take_getD D4 (digs D4 n) i)
      rw [← hx] at CX RX
      rw [← hy] at CY RY
      have HX0 : Hid (dq m ≤ i → x = 0) := fun h => by rw [hx, List.getElem?_eq_none h]; rfl
      have HY0 : Hid (dq n ≤ i → y = 0) := fun h => by rw [hy, List.getElem?_eq_none h]; rfl
      have RM := hide (add_math (W := D4) hval.out rfl (lohi4 (cr + (x + y))))
      have hdl2 : dd.length ≤ 300000 := by rw [hdl.out]; omega
      have H63 : Hid (dd.length + 1 ≤ maxLen) := by simp only [maxLen, Hid]; omega
      have HB : Hid (∀ u : Value, w.heap.size ≤ (wr.alloc (.cells #[u] 3)).heap.size) := fun u => by have := hbel.out.size; simp; omega
      have hi2 : Hid (i ≤ dq m ∨ i ≤ dq n) := by
        unfold Hid
        rcases hgo with h | h | h
        · left; omega
        · right; omega
        · rcases Nat.lt_or_ge (dq m) i with h1 | h1
          · rcases Nat.lt_or_ge (dq n) i with h2 | h2
            · have := hc2.out ⟨h1, h2⟩; omega
            · right; exact h2
          · left; exact h1
      clear hx hy
      have hways : i < dq m ∨ (¬ i < dq m ∧ i < dq n) ∨ (¬ i < dq m ∧ ¬ i < dq n ∧ 0 < cr) := by omega
      clear hgo
      have FIN : Hid (∀ (v2 : Value) (w3 : World), w3.ownsRow w.heap.size 3 1 v2 (dd.length + 1) (dd.map I64 ++ [.int .i64 (((x : Int) + (y : Int) + (cr : Int)) % 10000)]) → Below w.heap.size w w3 →
          ∃ (cr' : Nat) (de : List Nat), i + 1 ≤ dq m + dq n + 1 ∧ cr' ≤ 1 ∧ Hid (dq m ≤ i + 1 ∧ dq n ≤ i + 1 ∧ i + 1 = dq m + dq n + 1 → cr' = 0) ∧ Hid (dq m < i + 1 ∧ dq n < i + 1 → cr' = 0) ∧ Value.int .i64 (((x : Int) + (y : Int) + (cr : Int)) / 10000) = .int .i64 (cr' : Int) ∧ Hid (de.length = i + 1) ∧ Hid (Good4 de) ∧
            Hid (val D4 de + D4 ^ (i + 1) * cr' = val D4 ((digs D4 m).take (i + 1)) + val D4 ((digs D4 n).take (i + 1))) ∧ Hid (w3.ownsRow w.heap.size 3 1 v2 de.length (de.map I64)) ∧ Hid (Below w.heap.size w w3)) := by
        intro v2 w3 ho hb
        have hz : dq m < i + 1 ∧ dq n < i + 1 → (cr + (x + y)) / D4 = 0 := fun h => by
          have h1 := HX0.out (by omega)
          have h2 := HY0.out (by omega)
          rw [D4_eq]; omega
        refine ⟨(cr + (x + y)) / D4, dd ++ [(cr + (x + y)) % D4], ?_, by rw [D4_eq]; omega, fun h => hz (by omega), hz, ?_, by unfold Hid; rw [List.length_append, hdl.out]; rfl, ?_, ?_, ?_, hb⟩
        · rcases hi2.out with h | h <;> omega
        · exact congrArg (Value.int .i64) (show _ = (((cr + (x + y)) / D4 : Nat) : Int) by rw [D4_eq]; omega)
        · intro z hz
          rcases List.mem_append.1 hz with hz | hz
          · exact hdg.out z hz
          · simp at hz; subst hz; exact Nat.mod_lt _ (by decide)
        · unfold Hid
          rw [val_snoc, hdl.out, Nat.pow_succ, RX.out, RY.out, RM.out, Nat.mul_add]; omega
        · unfold Hid
          rw [List.length_append, List.map_append]
          have e : (((x : Int) + (y : Int) + (cr : Int)) % 10000) = (((cr + (x + y)) % D4 : Nat) : Int) := by rw [D4_eq]; omega
          rw [e] at ho
          exact ho
      rcases hways with hw1 | ⟨hw1, hw2⟩ | ⟨hw1, hw2, hw3⟩
      all_goals
        go_wp2_with (first | (go_at_call 147; first | ((with_reducible refine CX.out.mono ?_); rintro e w' ⟨rfl, rfl⟩) | ((with_reducible refine CY.out.mono ?_); rintro e w' ⟨rfl, rfl⟩)) | (at_builtin; go_must (refine wpList_append_own _ rfl (.tmp 34) (.tmp 37) 41 rfl w.heap.size 3 i0 (.int .i64 0) 1 8 Tryz.underlying41 I0.out Z0.out Z1.out Z2.out rfl (by decide) _ _ _ rfl (hown.out.alloc _) ⟨wr.heap.size, 0, none⟩ 1 1 [.int .i64 (((x : Int) + (y : Int) + (cr : Int)) % 10000)] rfl rfl (cell_one_new _ _ _) (by intro u hu; simp at hu; subst hu; rfl) H63.out (by omega) (HB.out _) ?_; intro v2 w3 hown' hgrow hnil)))
        go_roundw
        case rel =>
          obtain ⟨cr', de, f1, f2, f3, f4, f5, f6, f7, f8, f9, f10⟩ := FIN.out v2 w3 hown' (app_below hown.out hbel.out (Nat.le_refl _) hgrow)
          exact ⟨i + 1, cr', de, f1, f2, f3, f4, f5, by go_num, f6, f7, f8, f9, f10⟩
        case measure => simp [intOf]; omega
    · have hw1 : ¬ i < dq m := by omega
      have hw2 : ¬ i < dq n := by omega
      obtain rfl : cr = 0 := by omega
      clear hgo
      have HV : Hid (val D4 dd = m + n) := by
        have h1 := hval.out
        rw [List.take_of_length_le (show (digs D4 m).length ≤ i by unfold dq at hw1; omega), List.take_of_length_le (show (digs D4 n).length ≤ i by unfold dq at hw2; omega), val_digs4, val_digs4, Nat.mul_zero] at h1
        exact h1
      obtain ⟨A2, c2, he, hc, hr⟩ := row_rd hown.out
      cases he
      have HR := hide hr
      have hdl2 : dd.length ≤ 300000 := by rw [hdl.out]; omega
      go_wp2_with (first | (go_at_call 146; go_must (refine (rtrim_post rfl HV.out HR.out hdg.out (by omega) hc).mono ?_); rintro e w2 ⟨rfl, rfl⟩))
      go_ret
      exact ⟨A2, c2, rfl, rn_of rfl HV.out HR.out hdg.out hc, hbel⟩
end Go.Proofs.YteahcbeohopdlaaGreatDoor
end

section
/- The document's own numbers: Mul. Conditions: at most 100000 fours of digits. -/
open Go.RowKit
set_option maxRecDepth 100000
namespace Go.Proofs.YteahcbeohopdlaaGreatDoor
theorem made_i64 (w : World) (n : Nat) : Blk I64 3 (w.alloc (.cells (madeCells #[.int .i64 0] n) 3)) w.heap.size (List.replicate n 0) := made_zeros w _ _ n
theorem make_ints (n : Nat) (hn : n ≤ 1000000) (w : World) : (Instr.makeSlice 41 (.int .i64 (n : Int)) (.int .i64 (n : Int))).run Tryz.prog w =
    .ok (.slice (some ⟨w.heap.size, 0, none⟩) n n) (w.alloc (.cells (madeCells #[.int .i64 0] n) 3)) := by
  obtain ⟨i0, hi0, hz0, hz1, hz2⟩ := info_parts Tryz.infoInt
  have h := run_make (P := Tryz.prog) w 41 3 i0 (.int .i64 0) Tryz.underlying41 hi0 hz0 .i64 .i64 n n (by omega) (by omega) (by rw [hz2]; omega) (by omega)
  simpa [hz1, Value.cells] using h
theorem wpList_ints {w : World} {ops : Array Oper} {rest : List Oper} {o : Oper} {a : Act} {Q : Exit → Act → World → Prop} (hgd : o.guard = none) (l c : Operand) (hop : o.op = Op.makeSlice 41 l c)
    (n : Nat) (N : Int) (hl : a.eval l = .int .i64 N) (hc : a.eval c = .int .i64 N) (hN : N = (n : Int)) (hn : n ≤ 1000000)
    (h : ∀ g w', Hid (g = w.heap.size) → Hid (Blk I64 3 w' g (List.replicate n 0)) → Below w.heap.size w w' → wpList Tryz.prog ops Q rest (a.put o.dst (.slice (some ⟨g, 0, none⟩) n n)) w') : wpList Tryz.prog ops Q (o :: rest) a w := by
  subst hN
  exact wpList_made hgd l c _ hop _ _ _ hl hc (make_ints n hn w) (h _ _ rfl (made_i64 w n) ((Below.refl _ _).alloc (Nat.le_refl _) _))
theorem rmul_end {R seg : List Nat} {i k x m' X : Nat} (hi : i + k ≤ R.length) (hs : seg.length = k) (hR : val D4 R = X * m') (hv : val D4 seg = val D4 ((R.drop i).take k) + x * m') :
    val D4 (R.take i ++ (seg ++ R.drop (i + k))) = (X + D4 ^ i * x) * m' := by
  rw [val_append, val_append, hv, hs, List.length_take, Nat.min_eq_left (by omega)]
  have e : val D4 R = val D4 (R.take i) + D4 ^ i * (val D4 ((R.drop i).take k) + D4 ^ k * val D4 (R.drop (i + k))) := by
    have h1 := val_append D4 (R.take i) (R.drop i)
    rw [List.take_append_drop, List.length_take, Nat.min_eq_left (by omega)] at h1
    have h2 := val_append D4 ((R.drop i).take k) ((R.drop i).drop k)
    rw [List.take_append_drop, List.length_take, List.length_drop, Nat.min_eq_left (by omega), List.drop_drop] at h2
    rw [h1, h2]
  rw [Nat.add_mul, ← hR, e, Nat.mul_assoc]
  generalize D4 ^ i = P
  simp only [Nat.mul_add]; omega
theorem good4_app {l m : List Nat} (h : Good4 l) (hm : Good4 m) : Good4 (l ++ m) := by
  intro x hx
  rcases List.mem_append.1 hx with hx | hx
  · exact h x hx
  · exact hm x hx
theorem rmul_math {P V c A x Y s y t q r : Nat} (h : V + P * c = A + x * Y) (ht : t = s + x * y + c) (hq : r + D4 * q = t) : V + P * r + P * D4 * q = A + P * s + x * (Y + P * y) := by
  have e1 : P * r + P * D4 * q = P * t := by rw [← hq, Nat.mul_add, Nat.mul_assoc]
  have e2 : P * t = P * s + P * (x * y) + P * c := by rw [ht, Nat.mul_add, Nat.mul_add]
  have e3 : x * (P * y) = P * (x * y) := by rw [Nat.mul_left_comm]
  rw [Nat.mul_add x, e3]; omega
set_option maxHeartbeats 2000000 in
theorem rMul_any {A A' : Option Addr} {m n c c' : Nat} {w : World} (h : RN w w.heap.size A c m) (h' : RN w w.heap.size A' c' n) (hl : dq m ≤ 100000) (hl' : dq n ≤ 100000) :
    Calls Tryz.prog 101 #[.slice A (dq m) c, .slice A' (dq n) c'] w (RefPost w (m * n)) := by
  have HX := hide h
  have HY := hide h'
  clear h h'
  go_enter Tryz.func101, Tryz.ntmps101
  go_wp2_with (first | (at_make; go_must (refine wpList_ints rfl _ _ rfl (dq m + dq n + 1) _ rfl rfl (by omega) (by omega) ?_; intro g w1 hg hb1 hbel)))
  have hgw : w.heap.size ≤ g := by rw [hg.out]; exact Nat.le_refl _
  have HW1 := hide hbel
  clear hg hbel
  go_loopw [6] (fun iv wr => ∃ (i : Nat) (R : List Nat), i ≤ dq m ∧ iv = .int .i64 (i : Int) ∧ Hid (R.length = dq m + dq n + 1) ∧ Hid (Good4 R) ∧ Hid (val D4 R = val D4 ((digs D4 m).take i) * n) ∧ Hid (∀ j : Nat, i + dq n ≤ j → R[j]?.getD 0 = 0) ∧ Hid (Blk I64 3 wr g R) ∧ Hid (w1.grownBy wr (some g)))
    (fun iv _ => dq m - (intOf iv).toNat)
  case atStart => exact ⟨0, List.replicate (dq m + dq n + 1) 0, Nat.zero_le _, rfl, by simp [Hid], by intro x hx; rw [(List.mem_replicate.1 hx).2]; decide, by simp [Hid, val, val_zeros], by intro j _; rw [List.getElem?_replicate]; split <;> rfl, hb1, World.grownBy.refl _ _⟩
  case round =>
    obtain ⟨i, R, hi, rfl, hRl, hRg, hRv, hRz, hblk, hgr⟩ := hrel
    by_cases hlt : i < dq m
    · have hix : i < (digs D4 m).length := hlt
      obtain ⟨x, hxe⟩ : ∃ x, x = (digs D4 m)[i] := ⟨_, rfl⟩
      have hxL : (digs D4 m)[i]? = some x := by rw [hxe]; exact List.getElem?_eq_getElem hix
      have RX := hide (val_take_succ D4 hxL)
      have hx9 : x ≤ 9999 := by have := good4_digs m _ (List.getElem_mem hix); rw [← hxe, D4_eq] at this; omega
      have HXL := hide hxL
      clear hxe hix hxL
      go_wp2_with fail
      go_loopw [7, 8] (fun cv kv wr => ∃ (k cr : Nat) (seg : List Nat), k ≤ dq n + 1 ∧ cr ≤ 9999 ∧ Hid (k = dq n + 1 → cr = 0) ∧ cv = .int .i64 (cr : Int) ∧ kv = .int .i64 (k : Int) ∧ Hid (seg.length = k) ∧ Hid (Good4 seg) ∧ Hid (val D4 seg + D4 ^ k * cr = val D4 ((R.drop i).take k) + x * val D4 ((digs D4 n).take k)) ∧
          Hid (Blk I64 3 wr g (R.take i ++ (seg ++ R.drop (i + k)))) ∧ Hid (w1.grownBy wr (some g)))
        (fun _ kv _ => dq n + 2 - (intOf kv).toNat)
      case atStart => exact ⟨0, 0, [], by omega, by omega, fun _ => rfl, rfl, rfl, rfl, by intro x hx; simp at hx, by simp [Hid, val], by simpa [Hid] using hblk.out, hgr⟩
      case round =>
        obtain ⟨k, cr, seg, hk, hcr, hc0, rfl, rfl, hsl, hsg, hval, hblk2, hgr2⟩ := hrel
        by_cases hgo : k < dq n ∨ 0 < cr
        · have hkn : k ≤ dq n := by
            rcases hgo with h | h
            · omega
            · rcases Nat.lt_or_ge (dq n) k with h1 | h1
              · have := hc0.out (by omega); omega
              · exact h1
          have hik : i + k < R.length := by rw [hRl.out]; omega
          obtain ⟨y, hy⟩ : ∃ y, y = (digs D4 n)[k]?.getD 0 := ⟨_, rfl⟩
          have hy9 : y ≤ 9999 := by rw [hy]; exact getD_lt (good4_digs n) k
          obtain ⟨s, hs⟩ : ∃ s, s = R[i + k] := ⟨_, rfl⟩
          have hsL : R[i + k]? = some s := by rw [hs]; exact List.getElem?_eq_getElem hik
          have hs9 : s ≤ 9999 := by have := hRg.out _ (List.getElem_mem hik); rw [← hs, D4_eq] at this; omega
          have CY := hide (fun W : World => fun hb : Below w.heap.size w W => at_any (i := k) (c := c') (show dq n = (digs D4 n).length from rfl) (HY.out.below hb).2)
          have RY := hide (val_take_getD D4 (digs D4 n) k)
          rw [← hy] at RY
          simp only [← hy] at CY
          have RR := hide (val_take_succ D4 (L := R.drop i) (i := k) (x := s) (by rw [List.getElem?_drop]; exact hsL))
          obtain ⟨ad, e, hab, hcx⟩ := (((HX.out.below HW1.out).2.grown hgr2.out hgw).at_ (show i < (digs D4 m).length from hlt))
          subst e
          replace hcx : wr.cell? (ad.add i) = some (.int .i64 (x : Int)) := by
            have e2 := HXL.out
            rw [List.getElem?_eq_getElem (show i < (digs D4 m).length from hlt)] at e2
            injection e2 with e2
            rw [e2] at hcx; exact hcx
          have HBW := hide (HW1.out.trans (grown_below hgr2.out hgw hb1.out.lt))
          have hcs : wr.cell? ⟨g, i + k, none⟩ = some (.int .i64 (s : Int)) := hblk2.out.cell (by rw [get_mid (by rw [List.length_take]; omega) hsl.out, hsL])
          have hfz := hblk2.out.frozen (i + k)
          have hp0 : 0 ≤ (x : Int) * (y : Int) := Int.mul_nonneg (by omega) (by omega)
          have hpn : x * y ≤ 9999 * 9999 := Nat.mul_le_mul hx9 hy9
          have hp1 : (x : Int) * (y : Int) ≤ 99980001 := by have : ((x * y : Nat) : Int) ≤ 99980001 := by omega
                                                            rwa [Int.natCast_mul] at this
          obtain ⟨t, ht⟩ : ∃ t, t = s + x * y + cr := ⟨_, rfl⟩
          have HTE : Hid ((s : Int) + (x : Int) * (y : Int) + (cr : Int) = (t : Int)) := by unfold Hid; rw [ht, Int.natCast_add, Int.natCast_add, Int.natCast_mul]
          have htb : t ≤ 99999999 := by omega
          have E1 : Hid (IntKind.i64.wrap ((i : Int) + (k : Int)) = (i : Int) + (k : Int)) := IntWalk.i64_in _ (by omega)
          have E2 : Hid (0 ≤ (i : Int) + (k : Int)) := by unfold Hid; omega
          have E3 : Hid (((i : Int) + (k : Int)).toNat = i + k) := by unfold Hid; omega
          have E4 : Hid (IntKind.i64.wrap ((x : Int) * (y : Int)) = (x : Int) * (y : Int)) := IntWalk.i64_in _ (by omega)
          have E5 : Hid (IntKind.i64.wrap ((s : Int) + (x : Int) * (y : Int)) = (s : Int) + (x : Int) * (y : Int)) := IntWalk.i64_in _ (by omega)
          have E6 : Hid (IntKind.i64.wrap ((s : Int) + (x : Int) * (y : Int) + (cr : Int)) = (t : Int)) := by unfold Hid; rw [HTE.out]; exact IntWalk.i64_in _ (by omega)
          have htl : Hid (t / D4 ≤ 9999) := by unfold Hid; rw [D4_eq]; omega
          have htz : Hid (dq n ≤ k → t / D4 = 0) := fun hkk => by
            have h1 : y = 0 := by rw [hy, List.getElem?_eq_none hkk]; rfl
            have h2 : s = 0 := by have := hRz.out (i + k) (by omega); rw [hsL] at this; exact this
            rw [ht, h1, h2, D4_eq]; omega
          have RM := hide (rmul_math hval.out ht (lohi4 t))
          have RS := hide (set_mid (seg := seg) (v := t % D4) (show (R.take i).length = i by rw [List.length_take]; omega) hsl.out hik)
          clear hy hs hsL hpn ht hik
          have hways : k < dq n ∨ (¬ k < dq n ∧ 0 < cr) := by omega
          clear hgo
          rcases hways with hw1 | ⟨hw1, hw2⟩
          all_goals
            go_wp2_with fail
            have e1 := E1.out
            have e2 := E2.out
            have e3 := E3.out
            have e4 := E4.out
            have e5 := E5.out
            have e6 := E6.out
            have e7 : (i : Int) + (k : Int) < (dq m : Int) + (dq n : Int) + 1 := by omega
            have e8 : (i : Int) + (k : Int) < ((dq m + dq n + 1 : Nat) : Int) := by omega
            have e9 : (i : Int) < (dq m : Int) := by omega
            go_quiet ((go_at_call 147; exact quiet_left (CY.out _ (below_drewN HBW.out _))))
            clear e1 e2 e3 e4 e5 e6 e7 e8 e9
            go_wp2
            go_roundw
            case rel =>
              refine ⟨k + 1, t / D4, seg ++ [t % D4], by omega, htl.out, fun h => htz.out (by omega), rfl, by go_num, by unfold Hid; simp [hsl.out], ?_, ?_, ?_, ?_⟩
              · exact good4_app hsg.out (by intro z hz; simp at hz; subst hz; exact Nat.mod_lt _ (by decide))
              · unfold Hid
                rw [val_snoc, hsl.out, Nat.pow_succ, RR.out, RY.out]
                exact RM.out
              · have h1 := hblk2.out.set_ (i + k) (t % D4)
                rw [RS.out] at h1
                exact h1
              · exact grown_set (grown_drewN hgr2.out _) _ _
            case measure => simp [intOf]; omega
        · have hw1 : ¬ k < dq n := by omega
          obtain rfl : cr = 0 := by omega
          have hik : i + k ≤ R.length := by rw [hRl.out]; omega
          have HVS : Hid (val D4 seg = val D4 ((R.drop i).take k) + x * n) := by
            have h1 := hval.out
            rw [List.take_of_length_le (show (digs D4 n).length ≤ k by unfold dq at hw1; omega), val_digs4, Nat.mul_zero] at h1
            exact h1
          have HE := hide (rmul_end hik hsl.out hRv.out HVS.out)
          have HLN : Hid ((R.take i ++ (seg ++ R.drop (i + k))).length = dq m + dq n + 1) := by
            unfold Hid; rw [List.length_append, List.length_append, List.length_take, List.length_drop, hsl.out, hRl.out]; rw [hRl.out] at hik; omega
          have HZ : Hid (∀ j : Nat, i + 1 + dq n ≤ j → (R.take i ++ (seg ++ R.drop (i + k)))[j]?.getD 0 = 0) := fun j hj => by
            rw [List.getElem?_append_right (by rw [List.length_take]; omega), List.getElem?_append_right (by rw [List.length_take, hsl.out]; omega), List.getElem?_drop, List.length_take, hsl.out]
            have := hRz.out j (by omega)
            rw [← this]; congr 2; omega
          clear hgo hik
          go_wp2
          go_roundw
          case rel =>
            refine ⟨i + 1, _, by omega, by go_num, HLN, ?_, ?_, HZ, hblk2, hgr2⟩
            · exact good4_app (fun z hz => hRg.out z (List.mem_of_mem_take hz)) (good4_app hsg.out (fun z hz => hRg.out z (List.mem_of_mem_drop hz)))
            · unfold Hid; rw [RX.out]; exact HE.out
          case measure => simp [intOf]; omega
    · obtain rfl : i = dq m := by omega
      have HV : Hid (val D4 R = m * n) := by unfold Hid; rw [hRv.out, List.take_of_length_le (show (digs D4 m).length ≤ dq m from Nat.le_refl _), val_digs4]
      have HRD := hide (hblk.out.rd0 hblk.out.lt)
      go_wp2_with (first | (go_at_call 146; go_must (refine (rtrim_post hRl.out.symm HV.out HRD.out hRg.out (by omega) (by omega)).mono ?_); rintro e w2 ⟨rfl, rfl⟩))
      go_ret
      exact ⟨_, _, rfl, rn_of hRl.out.symm HV.out HRD.out hRg.out (Nat.le_refl _), HW1.out.trans (grown_below hgr.out hgw hb1.out.lt)⟩
end Go.Proofs.YteahcbeohopdlaaGreatDoor
end

section
/- The document's own numbers: Words. Conditions: at most 4000 words. -/
open Go.RowKit
set_option maxRecDepth 100000
namespace Go.Proofs.YteahcbeohopdlaaGreatDoor
theorem dq_le {m k : Nat} (h : m < D4 ^ k) : dq m ≤ k := by
  rcases Nat.eq_zero_or_pos m with rfl | h0
  · unfold dq; rw [digs_zero]; simp
  · have h1 := pow_le_of_digs (b := D4) (by decide) h0
    have h2 : D4 ^ (dq m - 1) < D4 ^ k := Nat.lt_of_le_of_lt h1 h
    have h3 := (Nat.pow_lt_pow_iff_right (a := D4) (by decide)).1 h2
    omega
theorem dq_words {m k : Nat} (h : m < W32 ^ k) : dq m ≤ 3 * k := by
  refine dq_le (Nat.lt_of_lt_of_le h ?_)
  rw [Nat.pow_mul]
  exact Nat.pow_le_pow_left (by decide) k
theorem dq_zero : dq 0 = 0 := by unfold dq; rw [digs_zero]; rfl
theorem u64_of_word {x : Nat} (h : x ≤ 4294967295) : x < 18446744073709551616 := by omega
theorem keepS {wr W W' : World} {a : Addr} {v : Option Value} (hlt : a.block < wr.heap.size) (hb : Hid (Below W.heap.size W W')) (h : W.cell? a = v ∧ Below wr.heap.size wr W) : W'.cell? a = v ∧ Below wr.heap.size wr W' :=
  ⟨(hb.out.cell (Nat.lt_of_lt_of_le hlt h.2.size)).trans h.1, h.2.trans (hb.out.mono h.2.size)⟩
set_option maxHeartbeats 1000000 in
theorem Words_any {A : Option Addr} {ws : List Nat} {n c : Nat} {w : World} (hn : n = ws.length) (h : Rd U32 w w.heap.size A ws) (hg : Good32 ws) (hl : n ≤ 4000) :
    Calls Tryz.prog 27 #[.slice A n c] w (RefPost w (val W32 ws)) := by
  have HN := hide hn
  have HR := hide h
  have HG := hide hg
  have CS := hide (Small_any (n := 4294967296) (w := w) (by omega))
  clear hn h hg
  go_enter Tryz.func27, Tryz.ntmps27
  go_wp2_with (first | (go_at_call 77; go_must (refine CS.out.mono ?_); rintro e w1 ⟨Ab, cb, rfl, hrb, hbb⟩))
  go_loopw [3, 5] (fun av iv wr => ∃ (j c1 : Nat) (A1 : Option Addr), j ≤ n ∧ iv = .int .i64 ((j : Int) - 1) ∧ av = .slice A1 (dq (val W32 (ws.drop j))) c1 ∧ Hid (RN wr wr.heap.size A1 c1 (val W32 (ws.drop j))) ∧ Hid (RN wr wr.heap.size Ab cb 4294967296) ∧ Hid (Below w.heap.size w wr))
    (fun _ iv _ => (intOf iv + 1).toNat)
  case atStart =>
    have hd : ws.drop n = [] := List.drop_of_length_le (by rw [HN.out]; exact Nat.le_refl _)
    exact ⟨n, 0, none, Nat.le_refl _, rfl, by rw [hd]; show _ = Value.slice none (dq 0) 0; rw [dq_zero], by unfold Hid; rw [hd]; exact ⟨by show dq 0 ≤ 0; rw [dq_zero]; exact Nat.le_refl _, by show Rd I64 w1 w1.heap.size none (digs D4 0); rw [digs_zero]; exact Rd.nil⟩, hrb, hbb⟩
  case round =>
    obtain ⟨j, c1, A1, hj, rfl, rfl, hra, hrb2, hbel⟩ := hrel
    by_cases h0 : j = 0
    · subst h0
      go_wp2
      go_ret
      rw [List.drop_zero] at hra
      exact ⟨A1, c1, rfl, hra, hbel⟩
    · obtain ⟨i, rfl⟩ : ∃ i, j = i + 1 := ⟨j - 1, by omega⟩
      have hiw : i < ws.length := by rw [← HN.out]; omega
      obtain ⟨ad, rfl, hab, hcx⟩ := (HR.out.below hbel.out).at_ hiw
      obtain ⟨x, hx⟩ : ∃ x, x = ws[i] := ⟨_, rfl⟩
      rw [← hx] at hcx
      unfold U32 at hcx
      have hxl : x ≤ 4294967295 := word_le (by rw [hx]; exact HG.out _ (List.getElem_mem _))
      obtain ⟨v, hv⟩ : ∃ v, v = val W32 (ws.drop (i + 1)) := ⟨_, rfl⟩
      rw [← hv] at hra ⊢
      have HV : Hid (val W32 (ws.drop i) = v * 4294967296 + x) := by
        unfold Hid
        rw [List.drop_eq_getElem_cons hiw, ← hx, hv]
        show x + W32 * _ = _
        rw [W32_eq]; omega
      have hvl : v < W32 ^ n := by
        have h1 := val_lt (ws.drop (i + 1)) (good_drop HG.out (i + 1))
        rw [← hv] at h1
        refine Nat.lt_of_lt_of_le h1 (Nat.pow_le_pow_right (by decide) ?_)
        rw [List.length_drop]; have := HN.out; omega
      have hq1 : dq v ≤ 100000 := by have := dq_words hvl; omega
      have hq2 : dq 4294967296 ≤ 100000 := by have := dq_u64 (n := 4294967296) (by omega); omega
      have hq3 : dq (v * 4294967296) ≤ 100000 := by
        have h1 : v * 4294967296 < W32 ^ (n + 1) := by
          rw [Nat.pow_succ]; exact Nat.mul_lt_mul_of_pos_right hvl (by decide)
        have := dq_words h1; omega
      have hq4 : dq x ≤ 100000 := by have := dq_u64 (n := x) (by omega); omega
      have HQ := hide (And.intro hq1 (And.intro hq2 (And.intro hq3 hq4)))
      have CM := hide (fun (W : World) (hb : Below wr.heap.size wr W) => rMul_any ((hra.out.below hb).more hb.size) ((hrb2.out.below hb).more hb.size) hq1 hq2)
      have CX := hide (fun (W : World) => Small_any (w := W) (u64_of_word hxl))
      clear hvl hx hv hq1 hq2 hq3 hq4
      have hib : (i : Int) < (n : Int) := by omega
      have hi0 : (0 : Int) ≤ (i : Int) := by omega
      have hb0 := Below.refl wr.heap.size wr
      go_wp2_with fail
      have e1 : IntKind.u64.wrap (x : Int) = (x : Int) := u64_nat (by omega)
      have hablt : (ad.add i).block < wr.heap.size := by rw [block_add]; exact Nat.lt_of_lt_of_le hab hbel.out.size
      go_region_held3 (fun w' => w'.cell? (ad.add i) = some (.int .u32 (x : Int)) ∧ Below wr.heap.size wr w') (first | exact ⟨hcx, (Below.refl _ _).drew⟩ | exact keepS hablt hb2 (by assumption) | exact keepS hablt hb3 (by assumption) | exact keepS hablt hb5 (by assumption)) (first | (go_at_call 101; refine (CM.out _ (And.right (by assumption))).mono ?_; rintro e w' ⟨A2, c2, rfl, hr2, hb2⟩) | (go_at_call 77; (with_reducible refine (CX.out _).mono ?_); rintro e w' ⟨A3, c3, rfl, hr3, hb3⟩; have hr4 := hide ((hr2.out.below hb3.out).more hb3.out.size)) | (go_at_call 100; (with_reducible refine (rAdd_any hr4.out hr3.out HQ.out.2.2.1 HQ.out.2.2.2).mono ?_); rintro e w' ⟨A4, c4, rfl, hr5, hb5⟩))
      clear e1
      have hb6 : Below wr.heap.size wr w' := by
        refine Below.trans ?_ (hb5.out.mono ?_)
        · exact ((Below.refl wr.heap.size wr).drew.trans (hb2.out.mono (Nat.le_refl _))).trans (hb3.out.mono hb2.out.size)
        · exact Nat.le_trans hb2.out.size hb3.out.size
      have HB6 := hide hb6
      clear hb6 hb0
      go_wp2
      go_roundw
      case rel => exact ⟨i, c4, A4, by omega, rfl, by rw [HV.out], by unfold Hid; rw [HV.out]; exact hr5.out, (hrb2.out.below HB6.out).more HB6.out.size, hbel.out.trans (HB6.out.mono hbel.out.size)⟩
      case measure => simp [intOf]
end Go.Proofs.YteahcbeohopdlaaGreatDoor
end

section
/- Strings of digits: trimLeftByte, TrimLeft, isDigits, valueOf. Conditions: lengths within the model's own bound. -/
open Go.RowKit
set_option maxRecDepth 100000
namespace Go.Proofs.YteahcbeohopdlaaGreatDoor
theorem toList_drop1 (t : ByteArray) : (t.extract 1 t.size).data.toList = t.data.toList.drop 1 := by
  rw [Lib.extract_data, List.take_of_length_le]
  rw [List.length_drop]; exact Nat.le_refl _
theorem size_list (t : ByteArray) : t.size = t.data.toList.length := rfl
theorem str_ret {t u : ByteArray} (h : t = u) : Ending.returned (.string t) = .returned (.string u) := by rw [h]
def TrimPost (l : List UInt8) (w : World) (e : Ending) (w' : World) : Prop := ∃ t : ByteArray, e = .returned (.string t) ∧ t.data.toList = l.dropWhile (· == 48) ∧ w = w'
theorem drop_yes {t : ByteArray} {h : 0 < t.size} (hx : t[0] = 48) : t.data.toList.dropWhile (· == 48) = (t.data.toList.drop 1).dropWhile (· == 48) := by
  obtain ⟨⟨l⟩⟩ := t
  cases l with
  | nil => simp [ByteArray.size] at h
  | cons a l =>
    have : a = 48 := hx
    subst this
    rfl
theorem drop_no {t : ByteArray} {h : 0 < t.size} (hx : t[0] ≠ 48) : t.data.toList.dropWhile (· == 48) = t.data.toList := by
  obtain ⟨⟨l⟩⟩ := t
  cases l with
  | nil => simp [ByteArray.size] at h
  | cons a l =>
    have : (a == 48) = false := by
      have : a ≠ 48 := hx
      simpa using this
    rw [List.dropWhile_cons, this]; rfl
set_option maxHeartbeats 400000 in
theorem trimByte_any (s : ByteArray) (w : World) :
    Calls Tryz.prog 163 #[.string s, .int .u8 48] w (TrimPost s.data.toList w) := by
  go_enter Tryz.func163, Tryz.ntmps163
  go_wp2
  go_loop [0] (fun sv => ∃ t : ByteArray, sv = .string t ∧ Hid (s.data.toList.dropWhile (· == 48) = t.data.toList.dropWhile (· == 48)) ∧ t.size ≤ s.size) (fun sv => match sv with | .string t => t.size | _ => 0)
  case atStart => exact ⟨s, rfl, rfl, Nat.le_refl _⟩
  case round =>
    obtain ⟨t, rfl, ht, hts⟩ := hrel
    by_cases h0 : t.size = 0
    · have HZ := hide h0
      have h1 : ¬ 0 < t.size := by omega
      clear h0
      go_wp2
      go_ret
      exact ⟨t, rfl, by rw [ht.out, List.eq_nil_of_length_eq_zero (show t.data.toList.length = 0 from HZ.out)]; rfl, rfl⟩
    · have h1 : 0 < t.size := by omega
      by_cases hx : t[0] = 48
      · have HX := hide hx
        have hxt : ((t[0].toNat : Int) == 48) = true := by rw [hx]; rfl
        clear hx
        go_wp2
        go_round
        case rel => exact ⟨_, rfl, by unfold Hid; rw [ht.out, toList_drop1, drop_yes HX.out], by simp; omega⟩
        case measure => simp; omega
      · have HX := hide hx
        have hxt : ((t[0].toNat : Int) == 48) = false := by
          rw [beq_eq_false_iff_ne]
          intro e
          exact hx (UInt8.toNat_inj.1 (by simpa using (show t[0].toNat = 48 by omega)))
        clear hx
        go_wp2
        go_ret
        exact ⟨t, rfl, by rw [ht.out, drop_no HX.out], rfl⟩
set_option maxHeartbeats 400000 in
theorem TrimLeft_any (s : ByteArray) (w : World) :
    Calls Tryz.prog 139 #[.string s, .string ⟨#[48]⟩] w (TrimPost s.data.toList w) := by
  by_cases h0 : s.size = 0
  · have hl : s.toList = [] := by rw [Lib.toList_data]; exact List.eq_nil_of_length_eq_zero h0
    have HL : Hid (s.data.toList = []) := List.eq_nil_of_length_eq_zero h0
    clear h0
    go_enter Tryz.func139, Tryz.ntmps139
    go_wp2
    go_ret
    exact ⟨s, rfl, by rw [HL.out]; rfl, rfl⟩
  · have hl : s.toList.isEmpty = false := by
      rw [Lib.toList_data]
      cases h : s.data.toList with
      | nil => exact absurd (show s.size = 0 by rw [size_list, h]; rfl) h0
      | cons a l => rfl
    clear h0
    go_enter Tryz.func139, Tryz.ntmps139
    go_wp2_with (first | (go_at_call 163; go_must (refine (trimByte_any s _).mono ?_); rintro e w' ⟨t, rfl, ht, rfl⟩))
    go_ret
    exact ⟨t, rfl, ht, rfl⟩
/-- Is it a digit? -/
def isDig (c : UInt8) : Bool := decide (48 ≤ c.toNat) && decide (c.toNat ≤ 57)
/-- One or more digits. -/
def digB (l : List UInt8) : Bool := !l.isEmpty && l.all isDig
def numL (l : List UInt8) : Nat := l.foldl (fun a c => a * 10 + (c.toNat - 48)) 0
theorem numL_snoc (l : List UInt8) (c : UInt8) : numL (l ++ [c]) = numL l * 10 + (c.toNat - 48) := by simp [numL]
theorem take_snoc {s : ByteArray} {k : Nat} (h : k < s.size) : s.data.toList.take (k + 1) = s.data.toList.take k ++ [s[k]] := by
  rw [List.take_succ_eq_append_getElem (by simpa using h)]; rfl
theorem bool_ret {a b : Bool} (h : a = b) : Ending.returned (.bool a) = .returned (.bool b) := by rw [h]
theorem dig_iff (c : UInt8) : isDig c = true ↔ 48 ≤ (c.toNat : Int) ∧ (c.toNat : Int) ≤ 57 := by unfold isDig; simp; omega
set_option maxHeartbeats 400000 in
theorem isDigits_any (s : ByteArray) (w : World) (hs : s.size ≤ maxLen) :
    Calls Tryz.prog 138 #[.string s] w fun e w' => e = .returned (.bool (digB s.data.toList)) ∧ w = w' := by
  unfold maxLen at hs
  by_cases h0 : s.size = 0
  · have hl : s.toList = [] := by rw [Lib.toList_data]; exact List.eq_nil_of_length_eq_zero h0
    have HL : Hid (s.data.toList = []) := List.eq_nil_of_length_eq_zero h0
    have HZ := hide h0
    have h1 : ¬ 0 < s.size := by omega
    clear h0
    go_enter Tryz.func138, Tryz.ntmps138
    go_wp2
    refine wp_loop_rounds 1 ?_; rw [rounds_succ]
    go_wp2
    go_ret
    exact ⟨by rw [HL.out]; rfl, rfl⟩
  · have hl : s.toList.isEmpty = false := by
      rw [Lib.toList_data]
      cases h : s.data.toList with
      | nil => exact absurd (show s.size = 0 by rw [size_list, h]; rfl) h0
      | cons a l => rfl
    have HE : Hid (s.data.toList.isEmpty = false) := by have := hl; rw [Lib.toList_data] at this; exact this
    clear h0
    go_enter Tryz.func138, Tryz.ntmps138
    go_wp2
    go_loop [6] (fun iv => ∃ k : Nat, k ≤ s.size ∧ iv = .int .i64 (k : Int) ∧ Hid ((s.data.toList.take k).all isDig = true)) (fun iv => s.size - (intOf iv).toNat)
    case atStart => exact ⟨0, Nat.zero_le _, rfl, rfl⟩
    case round =>
      obtain ⟨k, hk, rfl, hall⟩ := hrel
      by_cases hlt : k < s.size
      · have HT := hide (take_snoc hlt)
        by_cases hd : isDig s[k] = true
        · obtain ⟨hd1, hd2⟩ := (dig_iff _).1 hd
          have HD := hide hd
          clear hd
          go_wp2
          go_round
          case rel => exact ⟨k + 1, by omega, by go_num, by unfold Hid; rw [HT.out, List.all_append, hall.out]; simp [HD.out]⟩
          case measure => simp [intOf]; omega
        · have hd' : ¬ (48 ≤ (s[k].toNat : Int) ∧ (s[k].toNat : Int) ≤ 57) := fun h => hd ((dig_iff _).2 h)
          have HB : Hid (digB s.data.toList = false) := by
            unfold Hid digB
            have : s.data.toList.all isDig = false := by
              rw [List.all_eq_false]
              exact ⟨s[k], List.getElem_mem (l := s.data.toList) hlt, hd⟩
            rw [this]; simp
          clear hd
          by_cases h48 : 48 ≤ (s[k].toNat : Int)
          · have h57 : ¬ (s[k].toNat : Int) ≤ 57 := fun h => hd' ⟨h48, h⟩
            clear hd'
            go_wp2
            go_ret
            exact ⟨bool_ret HB.out.symm, rfl⟩
          · clear hd'
            go_wp2
            go_ret
            exact ⟨bool_ret HB.out.symm, rfl⟩
      · obtain rfl : k = s.size := by omega
        have HB : Hid (digB s.data.toList = true) := by
          unfold Hid digB
          have h := hall.out
          rw [List.take_of_length_le (Nat.le_of_eq (size_list s).symm)] at h
          rw [h, HE.out]; rfl
        go_wp2
        go_ret
        exact ⟨bool_ret HB.out.symm, rfl⟩
/-- The digits' numbers, the least significant first. -/
def dvs (l : List UInt8) : List Nat := l.reverse.map fun c => c.toNat - 48
theorem fold_val (l : List UInt8) : ∀ a : Nat, l.foldl (fun a c => a * 10 + (c.toNat - 48)) a = a * 10 ^ l.length + val 10 (dvs l) := by
  induction l with
  | nil => intro a; simp [dvs, val]
  | cons c l ih =>
    intro a
    rw [List.foldl_cons, ih]
    unfold dvs
    rw [List.reverse_cons, List.map_append, val_append, List.length_cons, Nat.pow_succ]
    simp only [List.map_cons, List.map_nil, val, List.length_map, List.length_reverse, Nat.mul_zero, Nat.add_zero]
    rw [Nat.add_mul, Nat.mul_assoc, Nat.mul_comm 10, Nat.mul_comm (10 ^ l.length) (c.toNat - 48)]
    omega
theorem numL_val (l : List UInt8) : numL l = val 10 (dvs l) := by unfold numL; rw [fold_val]; simp
theorem dvs_len (l : List UInt8) : (dvs l).length = l.length := by simp [dvs]
theorem dvs_lt {l : List UInt8} (h : l.all isDig = true) : ∀ x ∈ dvs l, x < 10 := by
  intro x hx
  unfold dvs at hx
  obtain ⟨c, hc, rfl⟩ := List.mem_map.1 hx
  have := (dig_iff c).1 (List.all_eq_true.1 h c (List.mem_reverse.1 hc))
  omega
theorem numL_lt (l : List UInt8) (h : l.all isDig = true) : numL l < 10 ^ l.length := by
  rw [numL_val, ← dvs_len]
  exact val_lt _ (dvs_lt h)
set_option maxHeartbeats 400000 in
theorem valueOf_any (s : ByteArray) (w : World) (hs : s.size ≤ 9) (hd : s.data.toList.all isDig = true) :
    Calls Tryz.prog 141 #[.string s] w fun e w' => e = .returned (.int .u32 (numL s.data.toList : Int)) ∧ w = w' := by
  have HD := hide hd
  clear hd
  go_enter Tryz.func141, Tryz.ntmps141
  go_wp2
  go_loop [3, 7] (fun sv iv => ∃ k v : Nat, k ≤ s.size ∧ iv = .int .i64 (k : Int) ∧ sv = .int .u32 (v : Int) ∧ Hid (v = numL (s.data.toList.take k))) (fun _ iv => s.size - (intOf iv).toNat)
  case atStart => exact ⟨0, 0, Nat.zero_le _, rfl, rfl, rfl⟩
  case round =>
    obtain ⟨k, v, hk, rfl, rfl, hv⟩ := hrel
    by_cases hlt : k < s.size
    · have HT := hide (take_snoc hlt)
      have hdk : isDig s[k] = true := List.all_eq_true.1 HD.out _ (List.getElem_mem (l := s.data.toList) hlt)
      obtain ⟨hd1, hd2⟩ := (dig_iff _).1 hdk
      have hvl : v < 100000000 := by
        have h1 := numL_lt (s.data.toList.take k) (by
          rw [List.all_eq_true]; exact fun c hc => List.all_eq_true.1 HD.out c (List.mem_of_mem_take hc))
        rw [← hv.out, List.length_take] at h1
        have h2 : 10 ^ min k s.data.toList.length ≤ 10 ^ 8 := Nat.pow_le_pow_right (by omega) (by have := size_list s; omega)
        omega
      clear hdk
      go_wp2
      go_round
      case rel => exact ⟨k + 1, _, by omega, by go_num, congrArg (Value.int .u32) (show _ = (((v * 10 + (s[k].toNat - 48) : Nat)) : Int) by omega), by unfold Hid; rw [HT.out, numL_snoc, ← hv.out]⟩
      case measure => simp [intOf]; omega
    · obtain rfl : k = s.size := by omega
      have hvl : v < 1000000000 := by
        have h1 := numL_lt (s.data.toList.take s.size) (by
          rw [List.all_eq_true]; exact fun c hc => List.all_eq_true.1 HD.out c (List.mem_of_mem_take hc))
        rw [← hv.out, List.length_take] at h1
        have h2 : 10 ^ min s.size s.data.toList.length ≤ 10 ^ 9 := Nat.pow_le_pow_right (by omega) (by omega)
        omega
      go_wp2
      go_ret
      exact ⟨by rw [hv.out, List.take_of_length_le (Nat.le_of_eq (size_list s).symm)]; rfl, rfl⟩
end Go.Proofs.YteahcbeohopdlaaGreatDoor
end
