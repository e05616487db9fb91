/- Several texts in one, each with its own sentence and conditions. -/
import Derived.Test.YteieelgdiccppaaDoorGNkc8
import Derived.Deep.RegionHeld3
import Derived.Test.YteieelgdiccppaaDoorGNkc1
import Derived.WalkSpells
import Derived.Lib.Strings
section
/- The document's own numbers: Mul. Conditions: at most 100000 fours of digits. -/
open Go.RowKit
set_option maxRecDepth 100000
namespace Go.Proofs.YteieelgdiccppaaDoor
theorem made_i64 (w : World) (n : Nat) : Blk I64 3 (w.alloc (.cells (madeCells #[.int .i64 0] n) 3)) w.heap.size (List.replicate n 0) := made_zeros w _ _ n
theorem make_ints (n : Nat) (hn : n ≤ 1000000) (w : World) : (Instr.makeSlice 39 (.int .i64 (n : Int)) (.int .i64 (n : Int))).run Tryd.prog w =
    .ok (.slice (some ⟨w.heap.size, 0, none⟩) n n) (w.alloc (.cells (madeCells #[.int .i64 0] n) 3)) := by
  obtain ⟨i0, hi0, hz0, hz1, hz2⟩ := info_parts Tryd.infoInt
  have h := run_make (P := Tryd.prog) w 39 3 i0 (.int .i64 0) Tryd.underlying39 hi0 hz0 .i64 .i64 n n (by omega) (by omega) (by rw [hz2]; omega) (by omega)
  simpa [hz1, Value.cells] using h
theorem wpList_ints {w : World} {ops : Array Oper} {rest : List Oper} {o : Oper} {a : Act} {Q : Exit → Act → World → Prop} (hgd : o.guard = none) (l c : Operand) (hop : o.op = Op.makeSlice 39 l c)
    (n : Nat) (N : Int) (hl : a.eval l = .int .i64 N) (hc : a.eval c = .int .i64 N) (hN : N = (n : Int)) (hn : n ≤ 1000000)
    (h : ∀ g w', Hid (g = w.heap.size) → Hid (Blk I64 3 w' g (List.replicate n 0)) → Below w.heap.size w w' → wpList Tryd.prog ops Q rest (a.put o.dst (.slice (some ⟨g, 0, none⟩) n n)) w') : wpList Tryd.prog ops Q (o :: rest) a w := by
  subst hN
  exact wpList_made hgd l c _ hop _ _ _ hl hc (make_ints n hn w) (h _ _ rfl (made_i64 w n) ((Below.refl _ _).alloc (Nat.le_refl _) _))
theorem rmul_end {R seg : List Nat} {i k x m' X : Nat} (hi : i + k ≤ R.length) (hs : seg.length = k) (hR : val D4 R = X * m') (hv : val D4 seg = val D4 ((R.drop i).take k) + x * m') :
    val D4 (R.take i ++ (seg ++ R.drop (i + k))) = (X + D4 ^ i * x) * m' := by
  rw [val_append, val_append, hv, hs, List.length_take, Nat.min_eq_left (by omega)]
  have e : val D4 R = val D4 (R.take i) + D4 ^ i * (val D4 ((R.drop i).take k) + D4 ^ k * val D4 (R.drop (i + k))) := by
    have h1 := val_append D4 (R.take i) (R.drop i)
    rw [List.take_append_drop, List.length_take, Nat.min_eq_left (by omega)] at h1
    have h2 := val_append D4 ((R.drop i).take k) ((R.drop i).drop k)
    rw [List.take_append_drop, List.length_take, List.length_drop, Nat.min_eq_left (by omega), List.drop_drop] at h2
    rw [h1, h2]
  rw [Nat.add_mul, ← hR, e, Nat.mul_assoc]
  generalize D4 ^ i = P
  simp only [Nat.mul_add]; omega
theorem good4_app {l m : List Nat} (h : Good4 l) (hm : Good4 m) : Good4 (l ++ m) := by
  intro x hx
  rcases List.mem_append.1 hx with hx | hx
  · exact h x hx
  · exact hm x hx
theorem rmul_math {P V c A x Y s y t q r : Nat} (h : V + P * c = A + x * Y) (ht : t = s + x * y + c) (hq : r + D4 * q = t) : V + P * r + P * D4 * q = A + P * s + x * (Y + P * y) := by
  have e1 : P * r + P * D4 * q = P * t := by rw [← hq, Nat.mul_add, Nat.mul_assoc]
  have e2 : P * t = P * s + P * (x * y) + P * c := by rw [ht, Nat.mul_add, Nat.mul_add]
  have e3 : x * (P * y) = P * (x * y) := by rw [Nat.mul_left_comm]
  rw [Nat.mul_add x, e3]; omega
set_option maxHeartbeats 2000000 in
theorem rMul_any {A A' : Option Addr} {m n c c' : Nat} {w : World} (h : RN w w.heap.size A c m) (h' : RN w w.heap.size A' c' n) (hl : dq m ≤ 100000) (hl' : dq n ≤ 100000) :
    Calls Tryd.prog 96 #[.slice A (dq m) c, .slice A' (dq n) c'] w (RefPost w (m * n)) := by
  have HX := hide h
  have HY := hide h'
  clear h h'
  go_enter Tryd.func96, Tryd.ntmps96
  go_wp2_with (first | (at_make; go_must (refine wpList_ints rfl _ _ rfl (dq m + dq n + 1) _ rfl rfl (by omega) (by omega) ?_; intro g w1 hg hb1 hbel)))
  have hgw : w.heap.size ≤ g := by rw [hg.out]; exact Nat.le_refl _
  have HW1 := hide hbel
  clear hg hbel
  go_loopw [6] (fun iv wr => ∃ (i : Nat) (R : List Nat), i ≤ dq m ∧ iv = .int .i64 (i : Int) ∧ Hid (R.length = dq m + dq n + 1) ∧ Hid (Good4 R) ∧ Hid (val D4 R = val D4 ((digs D4 m).take i) * n) ∧ Hid (∀ j : Nat, i + dq n ≤ j → R[j]?.getD 0 = 0) ∧ Hid (Blk I64 3 wr g R) ∧ Hid (w1.grownBy wr (some g)))
    (fun iv _ => dq m - (intOf iv).toNat)
  case atStart => exact ⟨0, List.replicate (dq m + dq n + 1) 0, Nat.zero_le _, rfl, by simp [Hid], by intro x hx; rw [(List.mem_replicate.1 hx).2]; decide, by simp [Hid, val, val_zeros], by intro j _; rw [List.getElem?_replicate]; split <;> rfl, hb1, World.grownBy.refl _ _⟩
  case round =>
    obtain ⟨i, R, hi, rfl, hRl, hRg, hRv, hRz, hblk, hgr⟩ := hrel
    by_cases hlt : i < dq m
    · have hix : i < (digs D4 m).length := hlt
      obtain ⟨x, hxe⟩ : ∃ x, x = (digs D4 m)[i] := ⟨_, rfl⟩
      have hxL : (digs D4 m)[i]? = some x := by rw [hxe]; exact List.getElem?_eq_getElem hix
      have RX := hide (val_take_succ D4 hxL)
      have hx9 : x ≤ 9999 := by have := good4_digs m _ (List.getElem_mem hix); rw [← hxe, D4_eq] at this; omega
      have HXL := hide hxL
      clear hxe hix hxL
      go_wp2_with fail
      go_loopw [7, 8] (fun cv kv wr => ∃ (k cr : Nat) (seg : List Nat), k ≤ dq n + 1 ∧ cr ≤ 9999 ∧ Hid (k = dq n + 1 → cr = 0) ∧ cv = .int .i64 (cr : Int) ∧ kv = .int .i64 (k : Int) ∧ Hid (seg.length = k) ∧ Hid (Good4 seg) ∧ Hid (val D4 seg + D4 ^ k * cr = val D4 ((R.drop i).take k) + x * val D4 ((digs D4 n).take k)) ∧
          Hid (Blk I64 3 wr g (R.take i ++ (seg ++ R.drop (i + k)))) ∧ Hid (w1.grownBy wr (some g)))
        (fun _ kv _ => dq n + 2 - (intOf kv).toNat)
      case atStart => exact ⟨0, 0, [], by omega, by omega, fun _ => rfl, rfl, rfl, rfl, by intro x hx; simp at hx, by simp [Hid, val], by simpa [Hid] using hblk.out, hgr⟩
      case round =>
        obtain ⟨k, cr, seg, hk, hcr, hc0, rfl, rfl, hsl, hsg, hval, hblk2, hgr2⟩ := hrel
        by_cases hgo : k < dq n ∨ 0 < cr
        · have hkn : k ≤ dq n := by
            rcases hgo with h | h
            · omega
            · rcases Nat.lt_or_ge (dq n) k with h1 | h1
              · have := hc0.out (by omega); omega
              · exact h1
          have hik : i + k < R.length := by rw [hRl.out]; omega
          obtain ⟨y, hy⟩ : ∃ y, y = (digs D4 n)[k]?.getD 0 := ⟨_, rfl⟩
          have hy9 : y ≤ 9999 := by rw [hy]; exact getD_lt (good4_digs n) k
          obtain ⟨s, hs⟩ : ∃ s, s = R[i + k] := ⟨_, rfl⟩
          have hsL : R[i + k]? = some s := by rw [hs]; exact List.getElem?_eq_getElem hik
          have hs9 : s ≤ 9999 := by have := hRg.out _ (List.getElem_mem hik); rw [← hs, D4_eq] at this; omega
          have CY := hide (fun W : World => fun hb : Below w.heap.size w W => at_any (i := k) (c := c') (show dq n = (digs D4 n).length from rfl) (HY.out.below hb).2)
          have RY := hide (val_take_getD D4 (digs D4 n) k)
          rw [← hy] at RY
          simp only [← hy] at CY
          have RR := hide (val_take_succ D4 (L := R.drop i) (i := k) (x := s) (by rw [List.getElem?_drop]; exact hsL))
          obtain ⟨ad, e, hab, hcx⟩ := (((HX.out.below HW1.out).2.grown hgr2.out hgw).at_ (show i < (digs D4 m).length from hlt))
          subst e
          replace hcx : wr.cell? (ad.add i) = some (.int .i64 (x : Int)) := by
            have e2 := HXL.out
            rw [List.getElem?_eq_getElem (show i < (digs D4 m).length from hlt)] at e2
            injection e2 with e2
            rw [e2] at hcx; exact hcx
          have HBW := hide (HW1.out.trans (grown_below hgr2.out hgw hb1.out.lt))
          have hcs : wr.cell? ⟨g, i + k, none⟩ = some (.int .i64 (s : Int)) := hblk2.out.cell (by rw [get_mid (by rw [List.length_take]; omega) hsl.out, hsL])
          have hfz := hblk2.out.frozen (i + k)
          have hp0 : 0 ≤ (x : Int) * (y : Int) := Int.mul_nonneg (by omega) (by omega)
          have hpn : x * y ≤ 9999 * 9999 := Nat.mul_le_mul hx9 hy9
          have hp1 : (x : Int) * (y : Int) ≤ 99980001 := by have : ((x * y : Nat) : Int) ≤ 99980001 := by omega
                                                            rwa [Int.natCast_mul] at this
          obtain ⟨t, ht⟩ : ∃ t, t = s + x * y + cr := ⟨_, rfl⟩
          have HTE : Hid ((s : Int) + (x : Int) * (y : Int) + (cr : Int) = (t : Int)) := by unfold Hid; rw [ht, Int.natCast_add, Int.natCast_add, Int.natCast_mul]
          have htb : t ≤ 99999999 := by omega
          have E1 : Hid (IntKind.i64.wrap ((i : Int) + (k : Int)) = (i : Int) + (k : Int)) := IntWalk.i64_in _ (by omega)
          have E2 : Hid (0 ≤ (i : Int) + (k : Int)) := by unfold Hid; omega
          have E3 : Hid (((i : Int) + (k : Int)).toNat = i + k) := by unfold Hid; omega
          have E4 : Hid (IntKind.i64.wrap ((x : Int) * (y : Int)) = (x : Int) * (y : Int)) := IntWalk.i64_in _ (by omega)
          have E5 : Hid (IntKind.i64.wrap ((s : Int) + (x : Int) * (y : Int)) = (s : Int) + (x : Int) * (y : Int)) := IntWalk.i64_in _ (by omega)
          have E6 : Hid (IntKind.i64.wrap ((s : Int) + (x : Int) * (y : Int) + (cr : Int)) = (t : Int)) := by unfold Hid; rw [HTE.out]; exact IntWalk.i64_in _ (by omega)
          have htl : Hid (t / D4 ≤ 9999) := by unfold Hid; rw [D4_eq]; omega
          have htz : Hid (dq n ≤ k → t / D4 = 0) := fun hkk => by
            have h1 : y = 0 := by rw [hy, List.getElem?_eq_none hkk]; rfl
            have h2 : s = 0 := by have := hRz.out (i + k) (by omega); rw [hsL] at this; exact this
            rw [ht, h1, h2, D4_eq]; omega
          have RM := hide (rmul_math hval.out ht (lohi4 t))
          have RS := hide (set_mid (seg := seg) (v := t % D4) (show (R.take i).length = i by rw [List.length_take]; omega) hsl.out hik)
          clear hy hs hsL hpn ht hik
          have hways : k < dq n ∨ (¬ k < dq n ∧ 0 < cr) := by omega
          clear hgo
          rcases hways with hw1 | ⟨hw1, hw2⟩
          all_goals
            go_wp2_with fail
            have e1 := E1.out
            have e2 := E2.out
            have e3 := E3.out
            have e4 := E4.out
            have e5 := E5.out
            have e6 := E6.out
            have e7 : (i : Int) + (k : Int) < (dq m : Int) + (dq n : Int) + 1 := by omega
            have e8 : (i : Int) + (k : Int) < ((dq m + dq n + 1 : Nat) : Int) := by omega
            have e9 : (i : Int) < (dq m : Int) := by omega
            go_quiet ((go_at_call 130; exact quiet_left (CY.out _ (below_drewN HBW.out _))))
            clear e1 e2 e3 e4 e5 e6 e7 e8 e9
            go_wp2
            go_roundw
            case rel =>
              refine ⟨k + 1, t / D4, seg ++ [t % D4], by omega, htl.out, fun h => htz.out (by omega), rfl, by go_num, by unfold Hid; simp [hsl.out], ?_, ?_, ?_, ?_⟩
              · exact good4_app hsg.out (by intro z hz; simp at hz; subst hz; exact Nat.mod_lt _ (by decide))
              · unfold Hid
                rw [val_snoc, hsl.out, Nat.pow_succ, RR.out, RY.out]
                exact RM.out
              · have h1 := hblk2.out.set_ (i + k) (t % D4)
                rw [RS.out] at h1
                exact h1
              · exact grown_set (grown_drewN hgr2.out _) _ _
            case measure => simp [intOf]; omega
        · have hw1 : ¬ k < dq n := by omega
          obtain rfl : cr = 0 := by omega
          have hik : i + k ≤ R.length := by rw [hRl.out]; omega
          have HVS : Hid (val D4 seg = val D4 ((R.drop i).take k) + x * n) := by
            have h1 := hval.out
            rw [List.take_of_length_le (show (digs D4 n).length ≤ k by unfold dq at hw1; omega), val_digs4, Nat.mul_zero] at h1
            exact h1
          have HE := hide (rmul_end hik hsl.out hRv.out HVS.out)
          have HLN : Hid ((R.take i ++ (seg ++ R.drop (i + k))).length = dq m + dq n + 1) := by
            unfold Hid; rw [List.length_append, List.length_append, List.length_take, List.length_drop, hsl.out, hRl.out]; rw [hRl.out] at hik; omega
          have HZ : Hid (∀ j : Nat, i + 1 + dq n ≤ j → (R.take i ++ (seg ++ R.drop (i + k)))[j]?.getD 0 = 0) := fun j hj => by
            rw [List.getElem?_append_right (by rw [List.length_take]; omega), List.getElem?_append_right (by rw [List.length_take, hsl.out]; omega), List.getElem?_drop, List.length_take, hsl.out]
            have := hRz.out j (by omega)
            rw [← this]; congr 2; omega
          clear hgo hik
          go_wp2
          go_roundw
          case rel =>
            refine ⟨i + 1, _, by omega, by go_num, HLN, ?_, ?_, HZ, hblk2, hgr2⟩
            · exact good4_app (fun z hz => hRg.out z (List.mem_of_mem_take hz)) (good4_app hsg.out (fun z hz => hRg.out z (List.mem_of_mem_drop hz)))
            · unfold Hid; rw [RX.out]; exact HE.out
          case measure => simp [intOf]; omega
    · obtain rfl : i = dq m := by omega
      have HV : Hid (val D4 R = m * n) := by unfold Hid; rw [hRv.out, List.take_of_length_le (show (digs D4 m).length ≤ dq m from Nat.le_refl _), val_digs4]
      have HRD := hide (hblk.out.rd0 hblk.out.lt)
      go_wp2_with (first | (go_at_call 131; go_must (refine (rtrim_post hRl.out.symm HV.out HRD.out hRg.out (by omega) (by omega)).mono ?_); rintro e w2 ⟨rfl, rfl⟩))
      go_ret
      exact ⟨_, _, rfl, rn_of hRl.out.symm HV.out HRD.out hRg.out (Nat.le_refl _), HW1.out.trans (grown_below hgr.out hgw hb1.out.lt)⟩
end Go.Proofs.YteieelgdiccppaaDoor
end

section
/- The document's own numbers: Words. Conditions: at most 4000 words. -/
open Go.RowKit
set_option maxRecDepth 100000
namespace Go.Proofs.YteieelgdiccppaaDoor
theorem dq_le {m k : Nat} (h : m < D4 ^ k) : dq m ≤ k := by
  rcases Nat.eq_zero_or_pos m with rfl | h0
  · unfold dq; rw [digs_zero]; simp
  · have h1 := pow_le_of_digs (b := D4) (by decide) h0
    have h2 : D4 ^ (dq m - 1) < D4 ^ k := Nat.lt_of_le_of_lt h1 h
    have h3 := (Nat.pow_lt_pow_iff_right (a := D4) (by decide)).1 h2
    omega
theorem dq_words {m k : Nat} (h : m < W32 ^ k) : dq m ≤ 3 * k := by
  refine dq_le (Nat.lt_of_lt_of_le h ?_)
  rw [Nat.pow_mul]
  exact Nat.pow_le_pow_left (by decide) k
theorem dq_zero : dq 0 = 0 := by unfold dq; rw [digs_zero]; rfl
theorem u64_of_word {x : Nat} (h : x ≤ 4294967295) : x < 18446744073709551616 := by omega
theorem keepS {wr W W' : World} {a : Addr} {v : Option Value} (hlt : a.block < wr.heap.size) (hb : Hid (Below W.heap.size W W')) (h : W.cell? a = v ∧ Below wr.heap.size wr W) : W'.cell? a = v ∧ Below wr.heap.size wr W' :=
  ⟨(hb.out.cell (Nat.lt_of_lt_of_le hlt h.2.size)).trans h.1, h.2.trans (hb.out.mono h.2.size)⟩
set_option maxHeartbeats 1000000 in
theorem Words_any {A : Option Addr} {ws : List Nat} {n c : Nat} {w : World} (hn : n = ws.length) (h : Rd U32 w w.heap.size A ws) (hg : Good32 ws) (hl : n ≤ 4000) :
    Calls Tryd.prog 84 #[.slice A n c] w (RefPost w (val W32 ws)) := by
  have HN := hide hn
  have HR := hide h
  have HG := hide hg
  have CS := hide (Small_any (n := 4294967296) (w := w) (by omega))
  clear hn h hg
  go_enter Tryd.func84, Tryd.ntmps84
  go_wp2_with (first | (go_at_call 19; go_must (refine CS.out.mono ?_); rintro e w1 ⟨Ab, cb, rfl, hrb, hbb⟩))
  go_loopw [3, 5] (fun av iv wr => ∃ (j c1 : Nat) (A1 : Option Addr), j ≤ n ∧ iv = .int .i64 ((j : Int) - 1) ∧ av = .slice A1 (dq (val W32 (ws.drop j))) c1 ∧ Hid (RN wr wr.heap.size A1 c1 (val W32 (ws.drop j))) ∧ Hid (RN wr wr.heap.size Ab cb 4294967296) ∧ Hid (Below w.heap.size w wr))
    (fun _ iv _ => (intOf iv + 1).toNat)
  case atStart =>
    have hd : ws.drop n = [] := List.drop_of_length_le (by rw [HN.out]; exact Nat.le_refl _)
    exact ⟨n, 0, none, Nat.le_refl _, rfl, by rw [hd]; show _ = Value.slice none (dq 0) 0; rw [dq_zero], by unfold Hid; rw [hd]; exact ⟨by show dq 0 ≤ 0; rw [dq_zero]; exact Nat.le_refl _, by show Rd I64 w1 w1.heap.size none (digs D4 0); rw [digs_zero]; exact Rd.nil⟩, hrb, hbb⟩
  case round =>
    obtain ⟨j, c1, A1, hj, rfl, rfl, hra, hrb2, hbel⟩ := hrel
    by_cases h0 : j = 0
    · subst h0
      go_wp2
      go_ret
      rw [List.drop_zero] at hra
      exact ⟨A1, c1, rfl, hra, hbel⟩
    · obtain ⟨i, rfl⟩ : ∃ i, j = i + 1 := ⟨j - 1, by omega⟩
      have hiw : i < ws.length := by rw [← HN.out]; omega
      obtain ⟨ad, rfl, hab, hcx⟩ := (HR.out.below hbel.out).at_ hiw
      obtain ⟨x, hx⟩ : ∃ x, x = ws[i] := ⟨_, rfl⟩
      rw [← hx] at hcx
      unfold U32 at hcx
      have hxl : x ≤ 4294967295 := word_le (by rw [hx]; exact HG.out _ (List.getElem_mem _))
      obtain ⟨v, hv⟩ : ∃ v, v = val W32 (ws.drop (i + 1)) := ⟨_, rfl⟩
      rw [← hv] at hra ⊢
      have HV : Hid (val W32 (ws.drop i) = v * 4294967296 + x) := by
        unfold Hid
        rw [List.drop_eq_getElem_cons hiw, ← hx, hv]
        show x + W32 * _ = _
        rw [W32_eq]; omega
      have hvl : v < W32 ^ n := by
        have h1 := val_lt (ws.drop (i + 1)) (good_drop HG.out (i + 1))
        rw [← hv] at h1
        refine Nat.lt_of_lt_of_le h1 (Nat.pow_le_pow_right (by decide) ?_)
        rw [List.length_drop]; have := HN.out; omega
      have hq1 : dq v ≤ 100000 := by have := dq_words hvl; omega
      have hq2 : dq 4294967296 ≤ 100000 := by have := dq_u64 (n := 4294967296) (by omega); omega
      have hq3 : dq (v * 4294967296) ≤ 100000 := by
        have h1 : v * 4294967296 < W32 ^ (n + 1) := by
          rw [Nat.pow_succ]; exact Nat.mul_lt_mul_of_pos_right hvl (by decide)
        have := dq_words h1; omega
      have hq4 : dq x ≤ 100000 := by have := dq_u64 (n := x) (by omega); omega
      have HQ := hide (And.intro hq1 (And.intro hq2 (And.intro hq3 hq4)))
      have CM := hide (fun (W : World) (hb : Below wr.heap.size wr W) => rMul_any ((hra.out.below hb).more hb.size) ((hrb2.out.below hb).more hb.size) hq1 hq2)
      have CX := hide (fun (W : World) => Small_any (w := W) (u64_of_word hxl))
      clear hvl hx hv hq1 hq2 hq3 hq4
      have hib : (i : Int) < (n : Int) := by omega
      have hi0 : (0 : Int) ≤ (i : Int) := by omega
      have hb0 := Below.refl wr.heap.size wr
      go_wp2_with fail
      have e1 : IntKind.u64.wrap (x : Int) = (x : Int) := u64_nat (by omega)
      have hablt : (ad.add i).block < wr.heap.size := by rw [block_add]; exact Nat.lt_of_lt_of_le hab hbel.out.size
      go_region_held3 (fun w' => w'.cell? (ad.add i) = some (.int .u32 (x : Int)) ∧ Below wr.heap.size wr w') (first | exact ⟨hcx, (Below.refl _ _).drew⟩ | exact keepS hablt hb2 (by assumption) | exact keepS hablt hb3 (by assumption) | exact keepS hablt hb5 (by assumption)) (first | (go_at_call 96; refine (CM.out _ (And.right (by assumption))).mono ?_; rintro e w' ⟨A2, c2, rfl, hr2, hb2⟩) | (go_at_call 19; (with_reducible refine (CX.out _).mono ?_); rintro e w' ⟨A3, c3, rfl, hr3, hb3⟩; have hr4 := hide ((hr2.out.below hb3.out).more hb3.out.size)) | (go_at_call 91; (with_reducible refine (rAdd_any hr4.out hr3.out HQ.out.2.2.1 HQ.out.2.2.2).mono ?_); rintro e w' ⟨A4, c4, rfl, hr5, hb5⟩))
      clear e1
      have hb6 : Below wr.heap.size wr w' := by
        refine Below.trans ?_ (hb5.out.mono ?_)
        · exact ((Below.refl wr.heap.size wr).drew.trans (hb2.out.mono (Nat.le_refl _))).trans (hb3.out.mono hb2.out.size)
        · exact Nat.le_trans hb2.out.size hb3.out.size
      have HB6 := hide hb6
      clear hb6 hb0
      go_wp2
      go_roundw
      case rel => exact ⟨i, c4, A4, by omega, rfl, by rw [HV.out], by unfold Hid; rw [HV.out]; exact hr5.out, (hrb2.out.below HB6.out).more HB6.out.size, hbel.out.trans (HB6.out.mono hbel.out.size)⟩
      case measure => simp [intOf]
end Go.Proofs.YteieelgdiccppaaDoor
end

section
/- Strings of digits: trimLeftByte, TrimLeft, isDigits, valueOf. Conditions: lengths within the model's own bound. -/
open Go.RowKit
set_option maxRecDepth 100000
namespace Go.Proofs.YteieelgdiccppaaDoor
theorem toList_drop1 (t : ByteArray) : (t.extract 1 t.size).data.toList = t.data.toList.drop 1 := by
  rw [Lib.extract_data, List.take_of_length_le]
  rw [List.length_drop]; exact Nat.le_refl _
theorem size_list (t : ByteArray) : t.size = t.data.toList.length := rfl
theorem str_ret {t u : ByteArray} (h : t = u) : Ending.returned (.string t) = .returned (.string u) := by rw [h]
def TrimPost (l : List UInt8) (w : World) (e : Ending) (w' : World) : Prop := ∃ t : ByteArray, e = .returned (.string t) ∧ t.data.toList = l.dropWhile (· == 48) ∧ w = w'
theorem drop_yes {t : ByteArray} {h : 0 < t.size} (hx : t[0] = 48) : t.data.toList.dropWhile (· == 48) = (t.data.toList.drop 1).dropWhile (· == 48) := by
  obtain ⟨⟨l⟩⟩ := t
  cases l with
  | nil => simp [ByteArray.size] at h
  | cons a l =>
    have : a = 48 := hx
    subst this
    rfl
theorem drop_no {t : ByteArray} {h : 0 < t.size} (hx : t[0] ≠ 48) : t.data.toList.dropWhile (· == 48) = t.data.toList := by
  obtain ⟨⟨l⟩⟩ := t
  cases l with
  | nil => simp [ByteArray.size] at h
  | cons a l =>
    have : (a == 48) = false := by
      have : a ≠ 48 := hx
      simpa using this
    rw [List.dropWhile_cons, this]; rfl
set_option maxHeartbeats 400000 in
theorem trimByte_any (s : ByteArray) (w : World) :
    Calls Tryd.prog 125 #[.string s, .int .u8 48] w (TrimPost s.data.toList w) := by
  go_enter Tryd.func125, Tryd.ntmps125
  go_wp2
  go_loop [0] (fun sv => ∃ t : ByteArray, sv = .string t ∧ Hid (s.data.toList.dropWhile (· == 48) = t.data.toList.dropWhile (· == 48)) ∧ t.size ≤ s.size) (fun sv => match sv with | .string t => t.size | _ => 0)
  case atStart => exact ⟨s, rfl, rfl, Nat.le_refl _⟩
  case round =>
    obtain ⟨t, rfl, ht, hts⟩ := hrel
    by_cases h0 : t.size = 0
    · have HZ := hide h0
      have h1 : ¬ 0 < t.size := by omega
      clear h0
      go_wp2
      go_ret
      exact ⟨t, rfl, by rw [ht.out, List.eq_nil_of_length_eq_zero (show t.data.toList.length = 0 from HZ.out)]; rfl, rfl⟩
    · have h1 : 0 < t.size := by omega
      by_cases hx : t[0] = 48
      · have HX := hide hx
        have hxt : ((t[0].toNat : Int) == 48) = true := by rw [hx]; rfl
        clear hx
        go_wp2
        go_round
        case rel => exact ⟨_, rfl, by unfold Hid; rw [ht.out, toList_drop1, drop_yes HX.out], by simp; omega⟩
        case measure => simp; omega
      · have HX := hide hx
        have hxt : ((t[0].toNat : Int) == 48) = false := by
          rw [beq_eq_false_iff_ne]
          intro e
          exact hx (UInt8.toNat_inj.1 (by simpa using (show t[0].toNat = 48 by omega)))
        clear hx
        go_wp2
        go_ret
        exact ⟨t, rfl, by rw [ht.out, drop_no HX.out], rfl⟩
set_option maxHeartbeats 400000 in
theorem TrimLeft_any (s : ByteArray) (w : World) :
    Calls Tryd.prog 79 #[.string s, .string ⟨#[48]⟩] w (TrimPost s.data.toList w) := by
  by_cases h0 : s.size = 0
  · have hl : s.toList = [] := by rw [Lib.toList_data]; exact List.eq_nil_of_length_eq_zero h0
    have HL : Hid (s.data.toList = []) := List.eq_nil_of_length_eq_zero h0
    clear h0
    go_enter Tryd.func79, Tryd.ntmps79
    go_wp2
    go_ret
    exact ⟨s, rfl, by rw [HL.out]; rfl, rfl⟩
  · have hl : s.toList.isEmpty = false := by
      rw [Lib.toList_data]
      cases h : s.data.toList with
      | nil => exact absurd (show s.size = 0 by rw [size_list, h]; rfl) h0
      | cons a l => rfl
    clear h0
    go_enter Tryd.func79, Tryd.ntmps79
    go_wp2_with (first | (go_at_call 125; go_must (refine (trimByte_any s _).mono ?_); rintro e w' ⟨t, rfl, ht, rfl⟩))
    go_ret
    exact ⟨t, rfl, ht, rfl⟩
/-- Is it a digit? -/
def isDig (c : UInt8) : Bool := decide (48 ≤ c.toNat) && decide (c.toNat ≤ 57)
/-- One or more digits. -/
def digB (l : List UInt8) : Bool := !l.isEmpty && l.all isDig
def numL (l : List UInt8) : Nat := l.foldl (fun a c => a * 10 + (c.toNat - 48)) 0
theorem numL_snoc (l : List UInt8) (c : UInt8) : numL (l ++ [c]) = numL l * 10 + (c.toNat - 48) := by simp [numL]
theorem take_snoc {s : ByteArray} {k : Nat} (h : k < s.size) : s.data.toList.take (k + 1) = s.data.toList.take k ++ [s[k]] := by
  rw [List.take_succ_eq_append_getElem (by simpa using h)]; rfl
theorem bool_ret {a b : Bool} (h : a = b) : Ending.returned (.bool a) = .returned (.bool b) := by rw [h]
theorem dig_iff (c : UInt8) : isDig c = true ↔ 48 ≤ (c.toNat : Int) ∧ (c.toNat : Int) ≤ 57 := by unfold isDig; simp; omega
set_option maxHeartbeats 400000 in
theorem isDigits_any (s : ByteArray) (w : World) (hs : s.size ≤ maxLen) :
    Calls Tryd.prog 78 #[.string s] w fun e w' => e = .returned (.bool (digB s.data.toList)) ∧ w = w' := by
  unfold maxLen at hs
  by_cases h0 : s.size = 0
  · have hl : s.toList = [] := by rw [Lib.toList_data]; exact List.eq_nil_of_length_eq_zero h0
    have HL : Hid (s.data.toList = []) := List.eq_nil_of_length_eq_zero h0
    have HZ := hide h0
    have h1 : ¬ 0 < s.size := by omega
    clear h0
    go_enter Tryd.func78, Tryd.ntmps78
    go_wp2
    refine wp_loop_rounds 1 ?_; rw [rounds_succ]
    go_wp2
    go_ret
    exact ⟨by rw [HL.out]; rfl, rfl⟩
  · have hl : s.toList.isEmpty = false := by
      rw [Lib.toList_data]
      cases h : s.data.toList with
      | nil => exact absurd (show s.size = 0 by rw [size_list, h]; rfl) h0
      | cons a l => rfl
    have HE : Hid (s.data.toList.isEmpty = false) := by have := hl; rw [Lib.toList_data] at this; exact this
    clear h0
    go_enter Tryd.func78, Tryd.ntmps78
    go_wp2
    go_loop [6] (fun iv => ∃ k : Nat, k ≤ s.size ∧ iv = .int .i64 (k : Int) ∧ Hid ((s.data.toList.take k).all isDig = true)) (fun iv => s.size - (intOf iv).toNat)
    case atStart => exact ⟨0, Nat.zero_le _, rfl, rfl⟩
    case round =>
      obtain ⟨k, hk, rfl, hall⟩ := hrel
      by_cases hlt : k < s.size
      · have HT := hide (take_snoc hlt)
        by_cases hd : isDig s[k] = true
        · obtain ⟨hd1, hd2⟩ := (dig_iff _).1 hd
          have HD := hide hd
          clear hd
          go_wp2
          go_round
          case rel => exact ⟨k + 1, by omega, by go_num, by unfold Hid; rw [HT.out, List.all_append, hall.out]; simp [HD.out]⟩
          case measure => simp [intOf]; omega
        · have hd' : ¬ (48 ≤ (s[k].toNat : Int) ∧ (s[k].toNat : Int) ≤ 57) := fun h => hd ((dig_iff _).2 h)
          have HB : Hid (digB s.data.toList = false) := by
            unfold Hid digB
            have : s.data.toList.all isDig = false := by
              rw [List.all_eq_false]
              exact ⟨s[k], List.getElem_mem (l := s.data.toList) hlt, hd⟩
            rw [this]; simp
          clear hd
          by_cases h48 : 48 ≤ (s[k].toNat : Int)
          · have h57 : ¬ (s[k].toNat : Int) ≤ 57 := fun h => hd' ⟨h48, h⟩
            clear hd'
            go_wp2
            go_ret
            exact ⟨bool_ret HB.out.symm, rfl⟩
          · clear hd'
            go_wp2
            go_ret
            exact ⟨bool_ret HB.out.symm, rfl⟩
      · obtain rfl : k = s.size := by omega
        have HB : Hid (digB s.data.toList = true) := by
          unfold Hid digB
          have h := hall.out
          rw [List.take_of_length_le (Nat.le_of_eq (size_list s).symm)] at h
          rw [h, HE.out]; rfl
        go_wp2
        go_ret
        exact ⟨bool_ret HB.out.symm, rfl⟩
/-- The digits' numbers, the least significant first. -/
def dvs (l : List UInt8) : List Nat := l.reverse.map fun c => c.toNat - 48
theorem fold_val (l : List UInt8) : ∀ a : Nat, l.foldl (fun a c => a * 10 + (c.toNat - 48)) a = a * 10 ^ l.length + val 10 (dvs l) := by
  induction l with
  | nil => intro a; simp [dvs, val]
  | cons c l ih =>
    intro a
    rw [List.foldl_cons, ih]
    unfold dvs
    rw [List.reverse_cons, List.map_append, val_append, List.length_cons, Nat.pow_succ]
    simp only [List.map_cons, List.map_nil, val, List.length_map, List.length_reverse, Nat.mul_zero, Nat.add_zero]
    rw [Nat.add_mul, Nat.mul_assoc, Nat.mul_comm 10, Nat.mul_comm (10 ^ l.length) (c.toNat - 48)]
    omega
theorem numL_val (l : List UInt8) : numL l = val 10 (dvs l) := by unfold numL; rw [fold_val]; simp
theorem dvs_len (l : List UInt8) : (dvs l).length = l.length := by simp [dvs]
theorem dvs_lt {l : List UInt8} (h : l.all isDig = true) : ∀ x ∈ dvs l, x < 10 := by
  intro x hx
  unfold dvs at hx
  obtain ⟨c, hc, rfl⟩ := List.mem_map.1 hx
  have := (dig_iff c).1 (List.all_eq_true.1 h c (List.mem_reverse.1 hc))
  omega
theorem numL_lt (l : List UInt8) (h : l.all isDig = true) : numL l < 10 ^ l.length := by
  rw [numL_val, ← dvs_len]
  exact val_lt _ (dvs_lt h)
set_option maxHeartbeats 400000 in
theorem valueOf_any (s : ByteArray) (w : World) (hs : s.size ≤ 9) (hd : s.data.toList.all isDig = true) :
    Calls Tryd.prog 81 #[.string s] w fun e w' => e = .returned (.int .u32 (numL s.data.toList : Int)) ∧ w = w' := by
  have HD := hide hd
  clear hd
  go_enter Tryd.func81, Tryd.ntmps81
  go_wp2
  go_loop [3, 7] (fun sv iv => ∃ k v : Nat, k ≤ s.size ∧ iv = .int .i64 (k : Int) ∧ sv = .int .u32 (v : Int) ∧ Hid (v = numL (s.data.toList.take k))) (fun _ iv => s.size - (intOf iv).toNat)
  case atStart => exact ⟨0, 0, Nat.zero_le _, rfl, rfl, rfl⟩
  case round =>
    obtain ⟨k, v, hk, rfl, rfl, hv⟩ := hrel
    by_cases hlt : k < s.size
    · have HT := hide (take_snoc hlt)
      have hdk : isDig s[k] = true := List.all_eq_true.1 HD.out _ (List.getElem_mem (l := s.data.toList) hlt)
      obtain ⟨hd1, hd2⟩ := (dig_iff _).1 hdk
      have hvl : v < 100000000 := by
        have h1 := numL_lt (s.data.toList.take k) (by
          rw [List.all_eq_true]; exact fun c hc => List.all_eq_true.1 HD.out c (List.mem_of_mem_take hc))
        rw [← hv.out, List.length_take] at h1
        have h2 : 10 ^ min k s.data.toList.length ≤ 10 ^ 8 := Nat.pow_le_pow_right (by omega) (by have := size_list s; omega)
        omega
      clear hdk
      go_wp2
      go_round
      case rel => exact ⟨k + 1, _, by omega, by go_num, congrArg (Value.int .u32) (show _ = (((v * 10 + (s[k].toNat - 48) : Nat)) : Int) by omega), by unfold Hid; rw [HT.out, numL_snoc, ← hv.out]⟩
      case measure => simp [intOf]; omega
    · obtain rfl : k = s.size := by omega
      have hvl : v < 1000000000 := by
        have h1 := numL_lt (s.data.toList.take s.size) (by
          rw [List.all_eq_true]; exact fun c hc => List.all_eq_true.1 HD.out c (List.mem_of_mem_take hc))
        rw [← hv.out, List.length_take] at h1
        have h2 : 10 ^ min s.size s.data.toList.length ≤ 10 ^ 9 := Nat.pow_le_pow_right (by omega) (by omega)
        omega
      go_wp2
      go_ret
      exact ⟨by rw [hv.out, List.take_of_length_le (Nat.le_of_eq (size_list s).symm)]; rfl, rfl⟩
end Go.Proofs.YteieelgdiccppaaDoor
end

section
/- Parse. Conditions: at most 100000 letters. -/
open Go.RowKit
set_option maxRecDepth 100000
namespace Go.Proofs.YteieelgdiccppaaDoor
/-- What Parse leaves. -/
def ParsePost (w : World) (l : List UInt8) (e : Ending) (w' : World) : Prop :=
  if digB l = true then ∃ A c, e = .returned (.tuple #[.agg #[.slice A (dl (numL l)) c], .bool true]) ∧ Can w' w'.heap.size A c (numL l) ∧ Below w.heap.size w w'
  else e = .returned (.tuple #[.agg #[.slice none 0 0], .bool false]) ∧ Below w.heap.size w w'
theorem numL_drop (l : List UInt8) : numL (l.dropWhile (· == 48)) = numL l := by
  induction l with
  | nil => rfl
  | cons c l ih =>
    by_cases h : c = 48
    · subst h
      rw [show (48 :: l).dropWhile (· == (48 : UInt8)) = l.dropWhile (· == 48) from rfl, ih]
      rfl
    · rw [List.dropWhile_cons, if_neg (by simpa using h)]
theorem all_drop {l : List UInt8} (h : l.all isDig = true) : (l.dropWhile (· == 48)).all isDig = true := by
  rw [List.all_eq_true] at *
  exact fun c hc => h c ((List.dropWhile_sublist _).subset hc)
theorem len_drop (l : List UInt8) : (l.dropWhile (· == 48)).length ≤ l.length := (List.dropWhile_sublist _).length_le
theorem numL_append (l m : List UInt8) : numL (l ++ m) = numL l * 10 ^ m.length + numL m := by
  rw [show numL (l ++ m) = m.foldl (fun a c => a * 10 + (c.toNat - 48)) (numL l) by unfold numL; rw [List.foldl_append], fold_val, ← numL_val]
theorem own_made (w : World) (base cap : Nat) (hb : base ≤ w.heap.size) (hm : cap ≤ 1000000) : ∀ cur : Array Value, cur.size = cap → OwnG (w.alloc (.cells cur 30)) base w.heap.size cap [] := fun cur hs =>
  World.ownsRow_made w cur cap hb (by simp only [maxLen]; omega) (by omega)
theorem dl_le {m k : Nat} (h : m < W32 ^ k) : dl m ≤ k := by
  rcases Nat.eq_zero_or_pos m with rfl | h0
  · unfold dl; rw [digs_zero]; simp
  · have h1 := pow_le_of_digs (b := W32) (by decide) h0
    have h2 : W32 ^ (dl m - 1) < W32 ^ k := Nat.lt_of_le_of_lt h1 h
    have h3 := (Nat.pow_lt_pow_iff_right (a := W32) (by decide)).1 h2
    omega
set_option maxHeartbeats 1000000 in
theorem Parse_any (s : ByteArray) (w : World) (hs : s.size ≤ 100000) :
    Calls Tryd.prog 16 #[.string s] w (ParsePost w s.data.toList) := by
  have HSM : Hid (s.size ≤ maxLen) := by simp only [maxLen, Hid]; omega
  by_cases hd : digB s.data.toList = true
  · have HD := hide hd
    obtain ⟨l, hl⟩ : ∃ l, l = s.data.toList := ⟨_, rfl⟩
    have hall : l.all isDig = true := by rw [hl]; unfold digB at hd; simp only [Bool.and_eq_true] at hd; exact hd.2
    have HL := hide hl
    have HA := hide hall
    have hlen : l.length ≤ 100000 := by rw [hl]; exact hs
    obtain ⟨i0, hi0, hz0, hz1, hz2⟩ := info_parts Tryd.infoU32
    have I0 := hide hi0
    have Z0 := hide hz0
    have Z1 := hide hz1
    have Z2 := hide hz2
    clear hi0 hz0 hz1 hz2 hd hl hall hs
    go_enter Tryd.func16, Tryd.ntmps16
    go_wp2_with (first | (go_at_call 78; go_must (refine (isDigits_any s _ HSM.out).mono ?_); rintro e w' ⟨rfl, rfl⟩; have hdt := HD.out) | (go_at_call 79; go_must (refine (TrimLeft_any s _).mono ?_); rintro e w' ⟨t, rfl, ht, rfl⟩; have HT := hide ht; have htl : t.size ≤ 100000 := (by rw [size_list, ht]; exact Nat.le_trans (len_drop _) (by rw [← HL.out]; exact hlen)); clear ht hdt) | (at_make; go_must (refine wpList_make_own _ rfl _ _ 23 rfl (w.heap.size + 1) 30 i0 (.int .u32 0) 1 Tryd.underlying23 I0.out Z0.out Z1.out .i64 .i64 _ (t.size / 9 + 1) rfl rfl (by omega) (by rw [Z2.out]; omega) (by simp only [maxLen]; omega) (by simp) ?_; intro w1 hown hgr1)))
    have HBEL : Hid (Below w.heap.size w w1) := ((Below.refl _ _).alloc (Nat.le_refl _) _).grown hgr1 (by simp) (by intro k hk; cases hk)
    have HRES : Hid (w1.heap[w.heap.size]? = some (.cells #[.slice none 0 0] 25 (0, 0))) := (hgr1.block _ (by simp) (by simp)).trans (heap_alloc_new w _)
    have HOWN : Hid (OwnG w1 (w.heap.size + 1) (w.heap.size + 1) (t.size / 9 + 1) []) := by simpa [Hid, OwnG, OwnF] using hown
    have HALL : Hid (t.data.toList.all isDig = true) := by unfold Hid; rw [HT.out, ← HL.out]; exact all_drop HA.out
    have HNT : Hid (numL t.data.toList = numL l) := by unfold Hid; rw [HT.out, ← HL.out, numL_drop]
    clear hown hgr1
    go_loopw [4, 5] (fun sv wv wr => ∃ (u : ByteArray) (m g' cap' : Nat), sv = .string u ∧ wv = .slice (some ⟨g', 0, none⟩) (dl m) cap' ∧ u.size ≤ t.size ∧ dl m ≤ 100000 ∧ Hid (m = 0 ∨ u.size % 9 = 0) ∧ Hid (OwnG wr (w.heap.size + 1) g' cap' (digs W32 m)) ∧ Hid (Below (w.heap.size + 1) w1 wr) ∧
        Hid (u.data.toList.all isDig = true) ∧ Hid (m * 10 ^ u.size + numL u.data.toList = numL l))
      (fun sv _ _ => match sv with | .string u => u.size | _ => 0)
    case atStart => exact ⟨t, 0, w.heap.size + 1, t.size / 9 + 1, rfl, by first | rfl | (unfold dl; rw [digs_zero]; rfl), Nat.le_refl _, by unfold dl; rw [digs_zero]; simp, .inl rfl, by rw [digs_zero]; exact HOWN, Below.refl _ _, HALL, by unfold Hid; rw [HNT.out]; simp⟩
    case round =>
      obtain ⟨u, m, g', cap', rfl, rfl, hut, hdl, h9, hown, hbel, hall, hnum⟩ := hrel
      by_cases h0 : u.size = 0
      · have h1 : ¬ 0 < u.size := by omega
        have HZ := hide h0
        obtain ⟨hr3, hr4⟩ := one_cell ((hbel.out.block _ (by omega)).trans HRES.out)
        clear h0
        go_wp2
        refine bodyPost_ret (v := .tuple #[.agg #[.slice (some ⟨g', 0, none⟩) (dl m) cap'], .bool true]) (by simp [results, Tryd.results16, go_sem, hr3]) rfl ?_
        have hm : m = numL l := by
          have h2 := hnum.out
          rw [HZ.out, List.eq_nil_of_length_eq_zero (show u.data.toList.length = 0 from HZ.out)] at h2
          simpa [numL] using h2
        unfold ParsePost
        rw [← HL.out, if_pos (by rw [HL.out]; exact HD.out), ← hm]
        refine ⟨_, _, rfl, ?_, (HBEL.out.trans (hbel.out.mono (by omega))).setCell (by simp) _⟩
        exact hown.out.can (by have := hown.out.ge.1; simp; omega) _
      · have h1 : 0 < u.size := by omega
        clear h0
        obtain ⟨k, hk⟩ : ∃ k, k = (u.size - 1) % 9 + 1 := ⟨_, rfl⟩
        obtain ⟨v, hv⟩ : ∃ v, v = numL (u.data.toList.take k) := ⟨_, rfl⟩
        have hk9 : k ≤ 9 ∧ k ≤ u.size := by omega
        have htake : (u.data.toList.take k).all isDig = true := by
          rw [List.all_eq_true]; exact fun c hc => List.all_eq_true.1 hall.out c (List.mem_of_mem_take hc)
        have hv9 : v ≤ 999999999 := by
          have h2 := numL_lt _ htake
          rw [← hv, List.length_take] at h2
          have h3 : 10 ^ min k u.data.toList.length ≤ 10 ^ 9 := Nat.pow_le_pow_right (by omega) (by omega)
          omega
        have CV : Hid (Calls Tryd.prog 81 #[.string (u.extract 0 ((u.size - 1) % 9 + 1))] wr fun e w' => e = .returned (.int .u32 (v : Int)) ∧ wr = w') := by
          have he : (u.extract 0 ((u.size - 1) % 9 + 1)).data.toList = u.data.toList.take k := by rw [Lib.extract_data, List.drop_zero, Nat.sub_zero, hk]
          have h2 := valueOf_any (u.extract 0 ((u.size - 1) % 9 + 1)) wr (by rw [size_list, he, List.length_take]; omega) (by rw [he]; exact htake)
          rw [he, ← hv] at h2
          exact h2
        have HNEW : Hid ((m * 1000000000 + v) * 10 ^ (u.size - k) + numL (u.data.toList.drop k) = numL l) := by
          have h2 := numL_append (u.data.toList.take k) (u.data.toList.drop k)
          rw [List.take_append_drop, List.length_drop, ← hv] at h2
          have h3 := hnum.out
          rw [h2, size_list] at h3
          unfold Hid
          rw [Nat.add_mul, size_list, ← h3]
          rcases h9.out with rfl | h9
          · simp
          · have hk2 : k = 9 := by omega
            have h4 : 10 ^ u.data.toList.length = 1000000000 * 10 ^ (u.data.toList.length - k) := by
              rw [show (1000000000 : Nat) = 10 ^ 9 from rfl, ← Nat.pow_add]; congr 1; rw [← size_list]; omega
            rw [h4, Nat.mul_assoc]; omega
        have HDL : Hid (dl (m * 1000000000 + v) ≤ 100000) := by
          have h2 : m * 1000000000 + v ≤ numL l := by
            rw [← HNEW.out]
            exact Nat.le_trans (Nat.le_mul_of_pos_right _ (Nat.pow_pos (by omega))) (Nat.le_add_right _ _)
          have h3 := numL_lt l HA.out
          have h4 : 10 ^ l.length ≤ W32 ^ l.length := Nat.pow_le_pow_left (by decide) _
          exact Nat.le_trans (dl_le (Nat.lt_of_le_of_lt h2 (Nat.lt_of_lt_of_le h3 h4))) hlen
        have HK : Hid (k = (u.size - 1) % 9 + 1) := hk
        have hsz : u.size - k < u.size := by omega
        have hmod : (u.size - k) % 9 = 0 := by omega
        have HMOD := hide hmod
        have HEX : Hid ((u.extract ((u.size - 1) % 9 + 1) u.size).data.toList = u.data.toList.drop k) := by
          unfold Hid
          rw [Lib.extract_data, ← hk, List.take_of_length_le]
          rw [List.length_drop]; exact Nat.le_refl _
        have HALD : Hid ((u.data.toList.drop k).all isDig = true) := by
          unfold Hid
          rw [List.all_eq_true]; exact fun c hc => List.all_eq_true.1 hall.out c (List.mem_of_mem_drop hc)
        clear hk hv htake hmod
        go_wp2_with (first | (go_at_call 81; go_must (refine CV.out.mono ?_); rintro e w' ⟨rfl, rfl⟩) | (go_at_call 80; go_must (refine (appendGroup_any hown.out hv9 (by omega)).mono ?_); rintro e w2 ⟨g2, cap2, rfl, hown2, hbel2⟩))
        go_roundw
        case rel =>
          refine ⟨_, m * 1000000000 + v, g2, cap2, rfl, rfl, ?_, HDL.out, .inr ?_, hown2, hbel.out.trans hbel2.out, ?_, ?_⟩
          · rw [size_list, HEX.out, List.length_drop]; have := size_list u; omega
          · rw [size_list, HEX.out, List.length_drop]; exact HMOD.out
          · unfold Hid; rw [HEX.out]; exact HALD.out
          · unfold Hid; rw [HEX.out, size_list, HEX.out, List.length_drop]; exact HNEW.out
        case measure => simp; omega
  · have HD := hide hd
    have hdf : digB s.data.toList = false := by simpa using hd
    clear hd hs
    go_enter Tryd.func16, Tryd.ntmps16
    go_wp2_with (first | (go_at_call 78; go_must (refine (isDigits_any s _ HSM.out).mono ?_); rintro e w' ⟨rfl, rfl⟩))
    refine bodyPost_ret (v := .tuple #[.agg #[.slice none 0 0], .bool false]) (by simp [results, Tryd.results16, go_sem]) rfl ?_
    unfold ParsePost
    rw [if_neg HD.out]
    refine ⟨rfl, ?_⟩
    exact (Below.refl _ _).alloc (Nat.le_refl _) _
end Go.Proofs.YteieelgdiccppaaDoor
end
