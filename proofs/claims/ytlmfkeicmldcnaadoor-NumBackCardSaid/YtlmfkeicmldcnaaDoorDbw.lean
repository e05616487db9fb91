/- divideByWord: words in place, by one word. Conditions: at most 1000000 words. -/
import Derived.Test.YtlmfkeicmldcnaaDoorAddm
open Go.RowKit
set_option maxRecDepth 100000
namespace Go.Proofs.YtlmfkeicmldcnaaDoor
def DivWordPost (w : World) (g k d : Nat) (L : List Nat) (e : Ending) (w' : World) : Prop :=
  ∃ (q : List Nat) (rest : Nat), e = .returned (.int .u32 (rest : Int)) ∧ Hid (q.length = k) ∧ Hid (Good32 q) ∧ rest < d ∧ Hid (val W32 (L.take k) = val W32 q * d + rest) ∧ Hid (Blk U32 30 w' g (q ++ L.drop k)) ∧ w.grownBy w' (some g)
theorem divw_math {vq d rest t q r x v W : Nat} (h : v = vq * d + rest) (ht : t = rest * W + x) (hq : r + d * q = t) : x + W * v = (q + W * vq) * d + r := by
  rw [h, Nat.mul_add, Nat.add_mul, Nat.mul_assoc W vq d]
  have : W * rest = rest * W := Nat.mul_comm _ _
  have : d * q = q * d := Nat.mul_comm _ _
  omega
theorem divw_lt {d rest t x W : Nat} (hr : rest < d) (ht : t = rest * W + x) (hx : x < W) : t / d < W := by
  rw [Nat.div_lt_iff_lt_mul (by omega), ht]
  have h1 : (rest + 1) * W ≤ d * W := Nat.mul_le_mul_right _ hr
  rw [Nat.add_mul, Nat.one_mul] at h1
  rw [Nat.mul_comm W d]; omega
theorem down_list {L D : List Nat} {i x v : Nat} (h : L[i]? = some x) : (L.take (i + 1) ++ D).set i v = L.take i ++ (v :: D) := by
  have hi : i < L.length := by
    rcases Nat.lt_or_ge i L.length with h1 | h1
    · exact h1
    · rw [List.getElem?_eq_none h1] at h; cases h
  have hl : (L.take i).length = i := by rw [List.length_take]; omega
  rw [List.take_succ_eq_append_getElem hi, List.append_assoc, List.set_append, if_neg (by omega), hl, Nat.sub_self]
  rfl
theorem down_drop {L : List Nat} {i k x : Nat} (h : L[i]? = some x) (hk : i < k) : (L.take k).drop i = x :: (L.take k).drop (i + 1) := by
  have hi : i < L.length := by
    rcases Nat.lt_or_ge i L.length with h1 | h1
    · exact h1
    · rw [List.getElem?_eq_none h1] at h; cases h
  rw [List.getElem?_eq_getElem hi] at h
  injection h with h
  rw [List.drop_eq_getElem_cons (by rw [List.length_take]; omega), List.getElem_take, h]
theorem quo_word {t d : Nat} (h : t / d < W32) : IntKind.u64.wrap ((t : Int) / (d : Int)) % 4294967296 = ((t / d : Nat) : Int) := by
  rw [W32_eq] at h
  rw [← Int.natCast_ediv]
  generalize t / d = q at h ⊢
  rw [u64_nat (by omega)]; omega
set_option maxHeartbeats 1000000 in
theorem divideByWord_any {g k c d : Nat} {L : List Nat} {w : World} (hb : Blk U32 30 w g L) (hk : k ≤ L.length) (hL : Good32 L) (hlim : k ≤ 1000000) (hd : d ≤ 4294967295) (hd0 : 1 ≤ d) :
    Calls Tryd.prog 64 #[.slice (some ⟨g, 0, none⟩) k c, .int .u32 (d : Int)] w (DivWordPost w g k d L) := by
  have HB := hide hb; have HK := hide hk; have HL := hide hL
  clear hb hk hL
  go_enter Tryd.func64, Tryd.ntmps64
  go_wp2
  go_loopw [5, 6] (fun rv iv wr => ∃ j rest : Nat, ∃ qs : List Nat, j ≤ k ∧ rest < d ∧ rv = .int .u64 (rest : Int) ∧ iv = .int .i64 ((j : Int) - 1) ∧ Hid (qs.length = k - j) ∧ Hid (Good32 qs) ∧ Hid (val W32 ((L.take k).drop j) = val W32 qs * d + rest) ∧
      Hid (Blk U32 30 wr g (L.take j ++ (qs ++ L.drop k))) ∧ Hid (w.grownBy wr (some g)))
    (fun _ iv _ => (intOf iv + 1).toNat)
  case atStart => exact ⟨k, 0, [], Nat.le_refl _, by omega, rfl, rfl, by simp [Hid], by intro x hx; simp at hx, by unfold Hid; rw [List.drop_of_length_le (by rw [List.length_take]; omega)]; simp [val], by unfold Hid; rw [List.nil_append, List.take_append_drop]; exact HB.out, World.grownBy.refl _ _⟩
  case round =>
    obtain ⟨j, rest, qs, hj, hrest, rfl, rfl, hsl, hsg, hval, hblk, hgr⟩ := hrel
    by_cases h0 : j = 0
    · subst h0
      go_wp2
      go_ret
      exact ⟨qs, rest, rfl, hsl.out, hsg.out, hrest, hval.out, hblk.out, hgr.out⟩
    · obtain ⟨i, rfl⟩ : ∃ i, j = i + 1 := ⟨j - 1, by omega⟩
      have hil : i < L.length := by have := HK.out; omega
      obtain ⟨x, hxe⟩ : ∃ x, x = L[i] := ⟨_, rfl⟩
      have hxL : L[i]? = some x := by rw [hxe]; exact List.getElem?_eq_getElem hil
      have hcx : wr.cell? ⟨g, i, none⟩ = some (.int .u32 (x : Int)) := hblk.out.cell (by rw [List.getElem?_append_left (by rw [List.length_take]; omega), List.getElem?_take, if_pos (by omega), hxL])
      have hfz := hblk.out.frozen i
      have hxW : x ≤ 4294967295 := word_le (by rw [hxe]; exact HL.out _ (List.getElem_mem _))
      have hrl : rest ≤ 4294967295 := by omega
      obtain ⟨t, ht⟩ : ∃ t, t = rest * 4294967296 + x := ⟨_, rfl⟩
      have hor : bits .or .u64 ((rest : Int) * 4294967296) (x : Int) = (t : Int) := by rw [ht]; exact or64 hrl hxW
      have HT := hide ht
      have hd1 := hide (Nat.mod_add_div t d)
      clear hxe ht hil
      have ha := hide (divw_math (W := W32) (x := x) hval.out (show t = rest * W32 + x from HT.out) hd1.out)
      have hb := hide (divw_lt (W := W32) hrest (show t = rest * W32 + x from HT.out) (by rw [W32_eq]; omega))
      have HI := hide (down_list (D := qs ++ L.drop k) (v := t / d) hxL)
      have HD := hide (down_drop (k := k) hxL (by omega))
      clear hxL
      go_wp2
      go_roundw
      case rel =>
        refine ⟨i, t % d, t / d :: qs, by omega, Nat.mod_lt _ (by omega), rfl, by go_num, by unfold Hid; rw [List.length_cons, hsl.out]; omega, ?_, ?_, ?_, grown_set hgr.out _ _⟩
        · intro y hy
          rcases List.mem_cons.1 hy with rfl | hy
          · exact hb.out
          · exact hsg.out y hy
        · unfold Hid
          rw [HD.out, val, val]
          exact ha.out
        · have h1 := hblk.out.set_ i (t / d)
          rw [HI.out] at h1
          rw [quo_word hb.out]
          exact h1
      case measure => simp [intOf]
end Go.Proofs.YtlmfkeicmldcnaaDoor
