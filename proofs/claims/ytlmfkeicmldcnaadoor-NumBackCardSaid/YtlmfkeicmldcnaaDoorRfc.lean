/- The document's own numbers: Mul. Conditions: at most 100000 fours of digits. -/
import Derived.Test.YtlmfkeicmldcnaaDoorRfb
open Go.RowKit
set_option maxRecDepth 100000
namespace Go.Proofs.YtlmfkeicmldcnaaDoor
theorem made_i64 (w : World) (n : Nat) : Blk I64 3 (w.alloc (.cells (madeCells #[.int .i64 0] n) 3)) w.heap.size (List.replicate n 0) := made_zeros w _ _ n
theorem make_ints (n : Nat) (hn : n ≤ 1000000) (w : World) : (Instr.makeSlice 39 (.int .i64 (n : Int)) (.int .i64 (n : Int))).run Tryd.prog w =
    .ok (.slice (some ⟨w.heap.size, 0, none⟩) n n) (w.alloc (.cells (madeCells #[.int .i64 0] n) 3)) := by
  obtain ⟨i0, hi0, hz0, hz1, hz2⟩ := info_parts Tryd.infoInt
  have h := run_make (P := Tryd.prog) w 39 3 i0 (.int .i64 0) Tryd.underlying39 hi0 hz0 .i64 .i64 n n (by omega) (by omega) (by rw [hz2]; omega) (by omega)
  simpa [hz1, Value.cells] using h
theorem wpList_ints {w : World} {ops : Array Oper} {rest : List Oper} {o : Oper} {a : Act} {Q : Exit → Act → World → Prop} (hgd : o.guard = none) (l c : Operand) (hop : o.op = Op.makeSlice 39 l c)
    (n : Nat) (N : Int) (hl : a.eval l = .int .i64 N) (hc : a.eval c = .int .i64 N) (hN : N = (n : Int)) (hn : n ≤ 1000000)
    (h : ∀ g w', Hid (g = w.heap.size) → Hid (Blk I64 3 w' g (List.replicate n 0)) → Below w.heap.size w w' → wpList Tryd.prog ops Q rest (a.put o.dst (.slice (some ⟨g, 0, none⟩) n n)) w') : wpList Tryd.prog ops Q (o :: rest) a w := by
  subst hN
  exact wpList_made hgd l c _ hop _ _ _ hl hc (make_ints n hn w) (h _ _ rfl (made_i64 w n) ((Below.refl _ _).alloc (Nat.le_refl _) _))
theorem rmul_end {R seg : List Nat} {i k x m' X : Nat} (hi : i + k ≤ R.length) (hs : seg.length = k) (hR : val D4 R = X * m') (hv : val D4 seg = val D4 ((R.drop i).take k) + x * m') :
    val D4 (R.take i ++ (seg ++ R.drop (i + k))) = (X + D4 ^ i * x) * m' := by
  rw [val_append, val_append, hv, hs, List.length_take, Nat.min_eq_left (by omega)]
  have e : val D4 R = val D4 (R.take i) + D4 ^ i * (val D4 ((R.drop i).take k) + D4 ^ k * val D4 (R.drop (i + k))) := by
    have h1 := val_append D4 (R.take i) (R.drop i)
    rw [List.take_append_drop, List.length_take, Nat.min_eq_left (by omega)] at h1
    have h2 := val_append D4 ((R.drop i).take k) ((R.drop i).drop k)
    rw [List.take_append_drop, List.length_take, List.length_drop, Nat.min_eq_left (by omega), List.drop_drop] at h2
    rw [h1, h2]
  rw [Nat.add_mul, ← hR, e, Nat.mul_assoc]
  generalize D4 ^ i = P
  simp only [Nat.mul_add]; omega
theorem good4_app {l m : List Nat} (h : Good4 l) (hm : Good4 m) : Good4 (l ++ m) := by
  intro x hx
  rcases List.mem_append.1 hx with hx | hx
  · exact h x hx
  · exact hm x hx
theorem rmul_math {P V c A x Y s y t q r : Nat} (h : V + P * c = A + x * Y) (ht : t = s + x * y + c) (hq : r + D4 * q = t) : V + P * r + P * D4 * q = A + P * s + x * (Y + P * y) := by
  have e1 : P * r + P * D4 * q = P * t := by rw [← hq, Nat.mul_add, Nat.mul_assoc]
  have e2 : P * t = P * s + P * (x * y) + P * c := by rw [ht, Nat.mul_add, Nat.mul_add]
  have e3 : x * (P * y) = P * (x * y) := by rw [Nat.mul_left_comm]
  rw [Nat.mul_add x, e3]; omega
set_option maxHeartbeats 2000000 in
theorem rMul_any {A A' : Option Addr} {m n c c' : Nat} {w : World} (h : RN w w.heap.size A c m) (h' : RN w w.heap.size A' c' n) (hl : dq m ≤ 100000) (hl' : dq n ≤ 100000) :
    Calls Tryd.prog 34 #[.slice A (dq m) c, .slice A' (dq n) c'] w (RefPost w (m * n)) := by
  have HX := hide h
  have HY := hide h'
  clear h h'
  go_enter Tryd.func34, Tryd.ntmps34
  go_wp2_with (first | (at_make; go_must (refine wpList_ints rfl _ _ rfl (dq m + dq n + 1) _ rfl rfl (by omega) (by omega) ?_; intro g w1 hg hb1 hbel)))
  have hgw : w.heap.size ≤ g := by rw [hg.out]; exact Nat.le_refl _
  have HW1 := hide hbel
  clear hg hbel
  go_loopw [6] (fun iv wr => ∃ (i : Nat) (R : List Nat), i ≤ dq m ∧ iv = .int .i64 (i : Int) ∧ Hid (R.length = dq m + dq n + 1) ∧ Hid (Good4 R) ∧ Hid (val D4 R = val D4 ((digs D4 m).take i) * n) ∧ Hid (∀ j : Nat, i + dq n ≤ j → R[j]?.getD 0 = 0) ∧ Hid (Blk I64 3 wr g R) ∧ Hid (w1.grownBy wr (some g)))
    (fun iv _ => dq m - (intOf iv).toNat)
  case atStart => exact ⟨0, List.replicate (dq m + dq n + 1) 0, Nat.zero_le _, rfl, by simp [Hid], by intro x hx; rw [(List.mem_replicate.1 hx).2]; decide, by simp [Hid, val, val_zeros], by intro j _; rw [List.getElem?_replicate]; split <;> rfl, hb1, World.grownBy.refl _ _⟩
  case round =>
    obtain ⟨i, R, hi, rfl, hRl, hRg, hRv, hRz, hblk, hgr⟩ := hrel
    by_cases hlt : i < dq m
    · have hix : i < (digs D4 m).length := hlt
      obtain ⟨x, hxe⟩ : ∃ x, x = (digs D4 m)[i] := ⟨_, rfl⟩
      have hxL : (digs D4 m)[i]? = some x := by rw [hxe]; exact List.getElem?_eq_getElem hix
      have RX := hide (val_take_succ D4 hxL)
      have hx9 : x ≤ 9999 := by have := good4_digs m _ (List.getElem_mem hix); rw [← hxe, D4_eq] at this; omega
      have HXL := hide hxL
      clear hxe hix hxL
      go_wp2_with fail
      go_loopw [7, 8] (fun cv kv wr => ∃ (k cr : Nat) (seg : List Nat), k ≤ dq n + 1 ∧ cr ≤ 9999 ∧ Hid (k = dq n + 1 → cr = 0) ∧ cv = .int .i64 (cr : Int) ∧ kv = .int .i64 (k : Int) ∧ Hid (seg.length = k) ∧ Hid (Good4 seg) ∧ Hid (val D4 seg + D4 ^ k * cr = val D4 ((R.drop i).take k) + x * val D4 ((digs D4 n).take k)) ∧
          Hid (Blk I64 3 wr g (R.take i ++ (seg ++ R.drop (i + k)))) ∧ Hid (w1.grownBy wr (some g)))
        (fun _ kv _ => dq n + 2 - (intOf kv).toNat)
      case atStart => exact ⟨0, 0, [], by omega, by omega, fun _ => rfl, rfl, rfl, rfl, by intro x hx; simp at hx, by simp [Hid, val], by simpa [Hid] using hblk.out, hgr⟩
      case round =>
        obtain ⟨k, cr, seg, hk, hcr, hc0, rfl, rfl, hsl, hsg, hval, hblk2, hgr2⟩ := hrel
        by_cases hgo : k < dq n ∨ 0 < cr
        · have hkn : k ≤ dq n := by
            rcases hgo with h | h
            · omega
            · rcases Nat.lt_or_ge (dq n) k with h1 | h1
              · have := hc0.out (by omega); omega
              · exact h1
          have hik : i + k < R.length := by rw [hRl.out]; omega
          obtain ⟨y, hy⟩ : ∃ y, y = (digs D4 n)[k]?.getD 0 := ⟨_, rfl⟩
          have hy9 : y ≤ 9999 := by rw [hy]; exact getD_lt (good4_digs n) k
          obtain ⟨s, hs⟩ : ∃ s, s = R[i + k] := ⟨_, rfl⟩
          have hsL : R[i + k]? = some s := by rw [hs]; exact List.getElem?_eq_getElem hik
          have hs9 : s ≤ 9999 := by have := hRg.out _ (List.getElem_mem hik); rw [← hs, D4_eq] at this; omega
          have CY := hide (fun W : World => fun hb : Below w.heap.size w W => at_any (i := k) (c := c') (show dq n = (digs D4 n).length from rfl) (HY.out.below hb).2)
          have RY := hide (val_take_getD D4 (digs D4 n) k)
          rw [← hy] at RY
          simp only [← hy] at CY
          have RR := hide (val_take_succ D4 (L := R.drop i) (i := k) (x := s) (by rw [List.getElem?_drop]; exact hsL))
          obtain ⟨ad, e, hab, hcx⟩ := (((HX.out.below HW1.out).2.grown hgr2.out hgw).at_ (show i < (digs D4 m).length from hlt))
          subst e
          replace hcx : wr.cell? (ad.add i) = some (.int .i64 (x : Int)) := by
            have e2 := HXL.out
            rw [List.getElem?_eq_getElem (show i < (digs D4 m).length from hlt)] at e2
            injection e2 with e2
            rw [e2] at hcx; exact hcx
          have HBW := hide (HW1.out.trans (grown_below hgr2.out hgw hb1.out.lt))
          have hcs : wr.cell? ⟨g, i + k, none⟩ = some (.int .i64 (s : Int)) := hblk2.out.cell (by rw [get_mid (by rw [List.length_take]; omega) hsl.out, hsL])
          have hfz := hblk2.out.frozen (i + k)
          have hp0 : 0 ≤ (x : Int) * (y : Int) := Int.mul_nonneg (by omega) (by omega)
          have hpn : x * y ≤ 9999 * 9999 := Nat.mul_le_mul hx9 hy9
          have hp1 : (x : Int) * (y : Int) ≤ 99980001 := by have : ((x * y : Nat) : Int) ≤ 99980001 := by omega
                                                            rwa [Int.natCast_mul] at this
          obtain ⟨t, ht⟩ : ∃ t, t = s + x * y + cr := ⟨_, rfl⟩
          have HTE : Hid ((s : Int) + (x : Int) * (y : Int) + (cr : Int) = (t : Int)) := by unfold Hid; rw [ht, Int.natCast_add, Int.natCast_add, Int.natCast_mul]
          have htb : t ≤ 99999999 := by omega
          have E1 : Hid (IntKind.i64.wrap ((i : Int) + (k : Int)) = (i : Int) + (k : Int)) := IntWalk.i64_in _ (by omega)
          have E2 : Hid (0 ≤ (i : Int) + (k : Int)) := by unfold Hid; omega
          have E3 : Hid (((i : Int) + (k : Int)).toNat = i + k) := by unfold Hid; omega
          have E4 : Hid (IntKind.i64.wrap ((x : Int) * (y : Int)) = (x : Int) * (y : Int)) := IntWalk.i64_in _ (by omega)
          have E5 : Hid (IntKind.i64.wrap ((s : Int) + (x : Int) * (y : Int)) = (s : Int) + (x : Int) * (y : Int)) := IntWalk.i64_in _ (by omega)
          have E6 : Hid (IntKind.i64.wrap ((s : Int) + (x : Int) * (y : Int) + (cr : Int)) = (t : Int)) := by unfold Hid; rw [HTE.out]; exact IntWalk.i64_in _ (by omega)
          have htl : Hid (t / D4 ≤ 9999) := by unfold Hid; rw [D4_eq]; omega
          have htz : Hid (dq n ≤ k → t / D4 = 0) := fun hkk => by
            have h1 : y = 0 := by rw [hy, List.getElem?_eq_none hkk]; rfl
            have h2 : s = 0 := by have := hRz.out (i + k) (by omega); rw [hsL] at this; exact this
            rw [ht, h1, h2, D4_eq]; omega
          have RM := hide (rmul_math hval.out ht (lohi4 t))
          have RS := hide (set_mid (seg := seg) (v := t % D4) (show (R.take i).length = i by rw [List.length_take]; omega) hsl.out hik)
          clear hy hs hsL hpn ht hik
          have hways : k < dq n ∨ (¬ k < dq n ∧ 0 < cr) := by omega
          clear hgo
          rcases hways with hw1 | ⟨hw1, hw2⟩
          all_goals
            go_wp2_with fail
            have e1 := E1.out
            have e2 := E2.out
            have e3 := E3.out
            have e4 := E4.out
            have e5 := E5.out
            have e6 := E6.out
            have e7 : (i : Int) + (k : Int) < (dq m : Int) + (dq n : Int) + 1 := by omega
            have e8 : (i : Int) + (k : Int) < ((dq m + dq n + 1 : Nat) : Int) := by omega
            have e9 : (i : Int) < (dq m : Int) := by omega
            go_quiet ((go_at_call 72; exact quiet_left (CY.out _ (below_drewN HBW.out _))))
            clear e1 e2 e3 e4 e5 e6 e7 e8 e9
            go_wp2
            go_roundw
            case rel =>
              refine ⟨k + 1, t / D4, seg ++ [t % D4], by omega, htl.out, fun h => htz.out (by omega), rfl, by go_num, by unfold Hid; simp [hsl.out], ?_, ?_, ?_, ?_⟩
              · exact good4_app hsg.out (by intro z hz; simp at hz; subst hz; exact Nat.mod_lt _ (by decide))
              · unfold Hid
                rw [val_snoc, hsl.out, Nat.pow_succ, RR.out, RY.out]
                exact RM.out
              · have h1 := hblk2.out.set_ (i + k) (t % D4)
                rw [RS.out] at h1
                exact h1
              · exact grown_set (grown_drewN hgr2.out _) _ _
            case measure => simp [intOf]; omega
        · have hw1 : ¬ k < dq n := by omega
          obtain rfl : cr = 0 := by omega
          have hik : i + k ≤ R.length := by rw [hRl.out]; omega
          have HVS : Hid (val D4 seg = val D4 ((R.drop i).take k) + x * n) := by
            have h1 := hval.out
            rw [List.take_of_length_le (show (digs D4 n).length ≤ k by unfold dq at hw1; omega), val_digs4, Nat.mul_zero] at h1
            exact h1
          have HE := hide (rmul_end hik hsl.out hRv.out HVS.out)
          have HLN : Hid ((R.take i ++ (seg ++ R.drop (i + k))).length = dq m + dq n + 1) := by
            unfold Hid; rw [List.length_append, List.length_append, List.length_take, List.length_drop, hsl.out, hRl.out]; rw [hRl.out] at hik; omega
          have HZ : Hid (∀ j : Nat, i + 1 + dq n ≤ j → (R.take i ++ (seg ++ R.drop (i + k)))[j]?.getD 0 = 0) := fun j hj => by
            rw [List.getElem?_append_right (by rw [List.length_take]; omega), List.getElem?_append_right (by rw [List.length_take, hsl.out]; omega), List.getElem?_drop, List.length_take, hsl.out]
            have := hRz.out j (by omega)
            rw [← this]; congr 2; omega
          clear hgo hik
          go_wp2
          go_roundw
          case rel =>
            refine ⟨i + 1, _, by omega, by go_num, HLN, ?_, ?_, HZ, hblk2, hgr2⟩
            · exact good4_app (fun z hz => hRg.out z (List.mem_of_mem_take hz)) (good4_app hsg.out (fun z hz => hRg.out z (List.mem_of_mem_drop hz)))
            · unfold Hid; rw [RX.out]; exact HE.out
          case measure => simp [intOf]; omega
    · obtain rfl : i = dq m := by omega
      have HV : Hid (val D4 R = m * n) := by unfold Hid; rw [hRv.out, List.take_of_length_le (show (digs D4 m).length ≤ dq m from Nat.le_refl _), val_digs4]
      have HRD := hide (hblk.out.rd0 hblk.out.lt)
      go_wp2_with (first | (go_at_call 73; go_must (refine (rtrim_post hRl.out.symm HV.out HRD.out hRg.out (by omega) (by omega)).mono ?_); rintro e w2 ⟨rfl, rfl⟩))
      go_ret
      exact ⟨_, _, rfl, rn_of hRl.out.symm HV.out HRD.out hRg.out (Nat.le_refl _), HW1.out.trans (grown_below hgr.out hgw hb1.out.lt)⟩
end Go.Proofs.YtlmfkeicmldcnaaDoor
