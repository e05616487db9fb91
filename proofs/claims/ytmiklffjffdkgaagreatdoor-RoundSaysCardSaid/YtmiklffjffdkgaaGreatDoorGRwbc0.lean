/- Several texts in one, each with its own sentence and conditions. -/
import Derived.Test.YtmiklffjffdkgaaGreatDoorProg
import Derived.WalkKit
import Derived.Below
import Derived.BigQuiet
import Derived.Deep.QuietTactic
import Derived.Deep.Draws
import Derived.Laws.OwnMore
import Derived.Laws.CopyOwn
import Derived.Laws.MakeOwn
import Derived.OwnWalk
import Derived.Deep.DeepMust
import Derived.Laws.Bits64
import Derived.Laws.BitsAllLaws
import Derived.Deep.AppendLies
import Derived.Deep.LoopGhost
section
/- Numbers as lists of digits in any base: plain mathematics, without conditions. -/
namespace Go.Proofs.YtmiklffjffdkgaaGreatDoor
/-- The number that a list of digits in base b tells, the least significant one first. -/
def val (b : Nat) : List Nat → Nat
  | [] => 0
  | x :: xs => x + b * val b xs
/-- The digits of n in base b, none of noughts at the end. -/
def digs (b n : Nat) : List Nat := if _h : n = 0 ∨ b < 2 then [] else n % b :: digs b (n / b)
termination_by n
decreasing_by exact Nat.div_lt_self (by omega) (by omega)
theorem digs_zero (b : Nat) : digs b 0 = [] := by rw [digs]; simp
theorem digs_pos {b n : Nat} (hb : 2 ≤ b) (hn : 0 < n) : digs b n = n % b :: digs b (n / b) := by rw [digs, dif_neg (by omega)]
theorem val_digs {b : Nat} (hb : 2 ≤ b) (n : Nat) : val b (digs b n) = n := by
  induction n using Nat.strongRecOn with
  | _ n ih =>
    by_cases hn : n = 0
    · subst hn; rw [digs_zero]; rfl
    · rw [digs_pos hb (by omega), val, ih _ (Nat.div_lt_self (by omega) (by omega))]; exact Nat.mod_add_div n b
theorem digs_lt {b : Nat} (hb : 2 ≤ b) (n : Nat) : ∀ x ∈ digs b n, x < b := by
  induction n using Nat.strongRecOn with
  | _ n ih =>
    by_cases hn : n = 0
    · subst hn; rw [digs_zero]; simp
    · rw [digs_pos hb (by omega)]
      intro x hx
      rcases List.mem_cons.1 hx with rfl | hx
      · exact Nat.mod_lt _ (by omega)
      · exact ih _ (Nat.div_lt_self (by omega) (by omega)) x hx
theorem val_append (b : Nat) (xs ys : List Nat) : val b (xs ++ ys) = val b xs + b ^ xs.length * val b ys := by
  induction xs with
  | nil => simp [val]
  | cons x xs ih => simp only [List.cons_append, val, ih, List.length_cons, Nat.pow_succ, Nat.mul_add]; rw [Nat.mul_comm (b ^ xs.length) b, Nat.mul_assoc, Nat.add_assoc]
theorem val_snoc (b : Nat) (xs : List Nat) (y : Nat) : val b (xs ++ [y]) = val b xs + b ^ xs.length * y := by rw [val_append]; simp [val]
theorem val_lt {b : Nat} (xs : List Nat) (h : ∀ x ∈ xs, x < b) : val b xs < b ^ xs.length := by
  induction xs with
  | nil => simp [val]
  | cons x xs ih =>
    have h1 := h x (by simp)
    have h2 := ih fun y hy => h y (by simp [hy])
    simp only [val, List.length_cons, Nat.pow_succ]
    have h3 : b * (val b xs + 1) ≤ b * b ^ xs.length := Nat.mul_le_mul_left _ h2
    rw [Nat.mul_comm (b ^ xs.length) b]; rw [Nat.mul_add] at h3; omega
theorem digs_val {b : Nat} (hb : 2 ≤ b) (l : List Nat) (h : ∀ x ∈ l, x < b) (hl : ∀ x, l.getLast? = some x → x ≠ 0) : digs b (val b l) = l := by
  induction l with
  | nil => exact digs_zero b
  | cons x xs ih =>
    have hx := h x (by simp)
    have hv : 0 < val b (x :: xs) := by
      simp only [val]
      cases xs with
      | nil => have := hl x rfl; simp [val]; omega
      | cons y ys =>
        have e := ih (fun z hz => h z (by simp [hz])) (fun z hz => hl z (by rw [List.getLast?_cons_cons]; exact hz))
        have : 0 < val b (y :: ys) := by
          rcases Nat.eq_zero_or_pos (val b (y :: ys)) with h0 | h0
          · rw [h0, digs_zero] at e; simp at e
          · exact h0
        have := Nat.mul_pos (show 0 < b by omega) this
        omega
    rw [digs_pos hb hv]
    simp only [val]
    rw [Nat.add_mul_mod_self_left, Nat.mod_eq_of_lt hx, Nat.add_mul_div_left _ _ (by omega), Nat.div_eq_of_lt hx, Nat.zero_add]
    cases xs with
    | nil => simp [val, digs_zero]
    | cons y ys => rw [ih (fun z hz => h z (by simp [hz])) (fun z hz => hl z (by rw [List.getLast?_cons_cons]; exact hz))]
theorem val_zeros (b k : Nat) : val b (List.replicate k 0) = 0 := by
  induction k with
  | zero => rfl
  | succ k ih => simp [List.replicate_succ, val, ih]
theorem zeros_of {l : List Nat} (h : ∀ j : Nat, l[j]?.getD 0 = 0) : l = List.replicate l.length 0 := by
  apply List.ext_getElem (by simp)
  intro i h1 h2
  have := h i
  rw [List.getElem?_eq_getElem h1] at this
  simpa using this
theorem val_take_zeros (b : Nat) (l : List Nat) (k : Nat) (h : ∀ j : Nat, k ≤ j → l[j]?.getD 0 = 0) : val b (l.take k) = val b l := by
  have e : val b l = val b (l.take k ++ l.drop k) := by rw [List.take_append_drop]
  rw [e, val_append, zeros_of (l := l.drop k) (fun j => by rw [List.getElem?_drop]; exact h _ (by omega)), val_zeros]; simp
theorem trim_eq {b : Nat} (hb : 2 ≤ b) (l : List Nat) (k : Nat) (h : ∀ x ∈ l, x < b) (hk : k ≤ l.length) (hz : ∀ j : Nat, k ≤ j → l[j]?.getD 0 = 0) (hl : 0 < k → l[k - 1]?.getD 0 ≠ 0) : l.take k = digs b (val b l) := by
  rw [← val_take_zeros b l k hz, digs_val hb _ (fun x hx => h x (List.mem_of_mem_take hx))]
  intro x hx
  rw [List.getLast?_eq_getElem?, List.length_take, Nat.min_eq_left hk] at hx
  rcases Nat.eq_zero_or_pos k with rfl | h0
  · simp at hx
  · rw [List.getElem?_take, if_pos (by omega)] at hx
    have := hl h0
    rw [hx] at this
    simpa using this
theorem digs_len_le {b : Nat} (hb : 2 ≤ b) (l : List Nat) (h : ∀ x ∈ l, x < b) : (digs b (val b l)).length ≤ l.length := by
  induction l with
  | nil => simp [val, digs_zero]
  | cons x xs ih =>
    have hx := h x (by simp)
    have h1 := ih fun y hy => h y (by simp [hy])
    rcases Nat.eq_zero_or_pos (val b (x :: xs)) with h0 | h0
    · rw [h0, digs_zero]; simp
    · rw [digs_pos hb h0]
      simp only [val]
      rw [Nat.add_mul_div_left _ _ (by omega), Nat.div_eq_of_lt hx, Nat.zero_add]
      simp; exact h1
/-- The last digit isn't 0. -/
theorem digs_last {b : Nat} (hb : 2 ≤ b) (n : Nat) : ∀ x, (digs b n).getLast? = some x → x ≠ 0 := by
  induction n using Nat.strongRecOn with
  | _ n ih =>
    intro x hx
    by_cases hn : n = 0
    · subst hn; rw [digs_zero] at hx; simp at hx
    · rw [digs_pos hb (by omega)] at hx
      by_cases hz : n / b = 0
      · rw [hz, digs_zero] at hx
        simp at hx
        have := Nat.mod_add_div n b
        rw [hz] at this
        omega
      · rw [digs_pos hb (Nat.pos_of_ne_zero hz), List.getLast?_cons_cons, ← digs_pos hb (Nat.pos_of_ne_zero hz)] at hx
        exact ih _ (Nat.div_lt_self (by omega) (by omega)) x hx
theorem digs_len_pos {b n : Nat} (hb : 2 ≤ b) : (digs b n).length = 0 ↔ n = 0 := by
  constructor
  · intro h
    have := val_digs hb n
    rw [List.eq_nil_of_length_eq_zero h] at this
    exact this.symm
  · rintro rfl; rw [digs_zero]; rfl
theorem pow_le_of_digs {b n : Nat} (hb : 2 ≤ b) (hn : 0 < n) : b ^ ((digs b n).length - 1) ≤ n := by
  induction n using Nat.strongRecOn with
  | _ n ih =>
    rw [digs_pos hb hn]
    simp only [List.length_cons, Nat.add_sub_cancel]
    by_cases hz : n / b = 0
    · rw [hz, digs_zero]; simp; omega
    · have h1 := ih _ (Nat.div_lt_self (by omega) (by omega)) (Nat.pos_of_ne_zero hz)
      have h2 : (digs b (n / b)).length ≠ 0 := fun h => hz ((digs_len_pos hb).1 h)
      obtain ⟨m, hm⟩ : ∃ m, (digs b (n / b)).length = m + 1 := ⟨_, (Nat.sub_add_cancel (by omega)).symm⟩
      rw [hm] at h1 ⊢
      rw [Nat.pow_succ]
      exact Nat.le_trans (Nat.mul_le_mul_right _ h1) (Nat.div_mul_le_self n b)
theorem lt_pow_digs {b : Nat} (hb : 2 ≤ b) (n : Nat) : n < b ^ (digs b n).length := by
  have := val_lt (digs b n) (digs_lt hb n)
  rwa [val_digs hb] at this
theorem digs_len_lt {b m n : Nat} (hb : 2 ≤ b) (h : (digs b m).length < (digs b n).length) : m < n := by
  have h1 := lt_pow_digs hb m
  have h2 : 0 < n := by
    rcases Nat.eq_zero_or_pos n with rfl | h2
    · rw [digs_zero] at h; simp at h
    · exact h2
  have h3 := pow_le_of_digs hb h2
  have h4 : b ^ (digs b m).length ≤ b ^ ((digs b n).length - 1) := Nat.pow_le_pow_right (by omega) (by omega)
  omega
theorem digs_len_mono {b m n : Nat} (hb : 2 ≤ b) (h : m ≤ n) : (digs b m).length ≤ (digs b n).length := by
  rcases Nat.lt_or_ge (digs b n).length (digs b m).length with h1 | h1
  · have := digs_len_lt hb h1; omega
  · exact h1
theorem digs_inj {b m n : Nat} (hb : 2 ≤ b) (h : digs b m = digs b n) : m = n := by rw [← val_digs hb m, h, val_digs hb]
/-- Two lists of one length that agree above place i and differ there. -/
theorem val_cmp {b : Nat} (l m : List Nat) (i : Nat) (hl : ∀ x ∈ l, x < b) (hlen : l.length = m.length) (hi : i < l.length) (heq : l.drop (i + 1) = m.drop (i + 1)) (hlt : l[i]?.getD 0 < m[i]?.getD 0) : val b l < val b m := by
  have e1 : val b l = val b (l.take i ++ (l[i] :: l.drop (i + 1))) := by rw [List.getElem_cons_drop, List.take_append_drop]
  have e2 : val b m = val b (m.take i ++ (m[i]'(by omega) :: m.drop (i + 1))) := by rw [List.getElem_cons_drop, List.take_append_drop]
  rw [e1, e2, val_append, val_append]
  simp only [val, List.length_take, ← hlen, heq]
  rw [List.getElem?_eq_getElem hi, List.getElem?_eq_getElem (by omega)] at hlt
  simp only [Option.getD_some] at hlt
  have h1 : val b (l.take i) < b ^ i := by
    have := val_lt (b := b) (l.take i) (fun x hx => hl x (List.mem_of_mem_take hx))
    rwa [List.length_take, Nat.min_eq_left (by omega)] at this
  rw [Nat.min_eq_left (by omega), Nat.mul_add, Nat.mul_add]
  have h2 : b ^ i * (l[i] + 1) ≤ b ^ i * (m[i]'(by omega)) := Nat.mul_le_mul_left _ hlt
  rw [Nat.mul_add] at h2
  omega
end Go.Proofs.YtmiklffjffdkgaaGreatDoor
end

section
/- Words for memory: a slice that reads as a list of numbers; and trim. Conditions: lengths that fit int. -/

open Go.RowKit
namespace Go.Proofs.YtmiklffjffdkgaaGreatDoor
theorem block_add (a : Addr) (n : Nat) : (a.add n).block = a.block := by unfold Addr.add; split <;> rfl
theorem add_add' (a : Addr) (i j : Nat) : (a.add i).add j = a.add (i + j) := by
  unfold Addr.add
  by_cases hi : i = 0 <;> by_cases hj : j = 0 <;> simp [hi, hj, Nat.add_assoc]
/-- A slice at A reads as xs, each by f, and lies below block B. -/
def Rd (f : Nat → Value) (w : World) (B : Nat) (A : Option Addr) (xs : List Nat) : Prop :=
  0 < xs.length → ∃ ad, A = some ad ∧ ad.block < B ∧ ∀ j x, xs[j]? = some x → w.cell? (ad.add j) = some (f x)
def U32 (x : Nat) : Value := .int .u32 (x : Int)
def I64 (x : Nat) : Value := .int .i64 (x : Int)
def U8 (x : Nat) : Value := .int .u8 (x : Int)
section
variable {f : Nat → Value} {w w' : World} {B B' : Nat} {A : Option Addr} {xs : List Nat}
theorem Rd.nil : Rd f w B A [] := fun h => absurd h (by simp)
theorem Rd.at_ {k : Nat} (h : Rd f w B A xs) (hk : k < xs.length) : ∃ ad, A = some ad ∧ ad.block < B ∧ w.cell? (ad.add k) = some (f xs[k]) := by
  obtain ⟨ad, e, hb, hc⟩ := h (by omega)
  exact ⟨ad, e, hb, hc k _ (List.getElem?_eq_getElem hk)⟩
theorem Rd.keep (h : Rd f w B A xs) (hk : ∀ p : Addr, p.block < B → w'.cell? p = w.cell? p) : Rd f w' B A xs := fun hn => by
  obtain ⟨ad, e, hb, hc⟩ := h hn
  exact ⟨ad, e, hb, fun j u hu => (hk _ (by rw [block_add]; exact hb)).trans (hc j u hu)⟩
theorem Rd.more (h : Rd f w B A xs) (hB : B ≤ B') : Rd f w B' A xs := fun hn => by
  obtain ⟨ad, e, hb, hc⟩ := h hn
  exact ⟨ad, e, by omega, hc⟩
theorem Rd.below (h : Rd f w B A xs) (hb : Below B w w') : Rd f w' B A xs := h.keep fun _ hp => hb.cell hp
theorem Rd.drewN (h : Rd f w B A xs) (k : Nat) : Rd f (w.drewN k) B A xs := h
theorem Rd.alloc (h : Rd f w B A xs) (hB : B ≤ w.heap.size) (o : Obj) : Rd f (w.alloc o) B A xs := h.keep fun p hp => World.cell?_alloc_lt w o p (by omega)
theorem Rd.take (h : Rd f w B A xs) (k : Nat) : Rd f w B A (xs.take k) := fun hn => by
  obtain ⟨ad, e, hb, hc⟩ := h (by rw [List.length_take] at hn; omega)
  refine ⟨ad, e, hb, fun j x hx => hc j x ?_⟩
  rw [List.getElem?_take] at hx
  split at hx
  · exact hx
  · cases hx
theorem Rd.cut {k cap : Nat} (h : Rd f w B A xs) (hc : xs.length ≤ cap) : Rd f w B (if cap = k then A else A.map (·.add k)) (xs.drop k) := fun hn => by
  rw [List.length_drop] at hn
  obtain ⟨ad, rfl, hb, hcell⟩ := h (by omega)
  rw [if_neg (by omega)]
  refine ⟨ad.add k, rfl, by rw [block_add]; exact hb, fun j u hu => ?_⟩
  rw [add_add']
  exact hcell _ u (by rw [← hu, List.getElem?_drop])
end
def W32 : Nat := 4294967296
theorem W32_eq : W32 = 4294967296 := rfl
/-- How many words are left when the noughts at the end are cut off. -/
def trimmed (ws : List Nat) : Nat := (digs W32 (val W32 ws)).length
def Good32 (ws : List Nat) : Prop := ∀ x ∈ ws, x < W32
theorem trimmed_of {ws : List Nat} {k : Nat} (h : Good32 ws) (hk : k ≤ ws.length) (hz : ∀ j : Nat, k ≤ j → ws[j]?.getD 0 = 0) (hl : 0 < k → ws[k - 1]?.getD 0 ≠ 0) : trimmed ws = k := by
  unfold trimmed
  rw [← trim_eq (by decide) ws k h hk hz hl, List.length_take, Nat.min_eq_left hk]
theorem slice_ret {A : Option Addr} {c m n : Nat} (h : m = n) : Ending.returned (.slice A m c) = .returned (.slice A n c) := by rw [h]
def lenOf : Value → Nat | .slice _ k _ => k | _ => 0
theorem hide {p : Prop} (h : p) : Hid p := h
set_option maxHeartbeats 400000 in
theorem trim_any (A : Option Addr) (ws : List Nat) (c : Nat) (w : World) (B : Nat) (h : Rd U32 w B A ws) (hw : Good32 ws) (hl : ws.length ≤ 1000000) (hc : ws.length ≤ c) :
    Calls Tryz.prog 75 #[.slice A ws.length c] w fun e w' => e = .returned (.slice A (trimmed ws) c) ∧ w = w' := by
  obtain ⟨n, hn⟩ : ∃ n, n = ws.length := ⟨_, rfl⟩
  have hl' : n ≤ 1000000 := by omega
  have hc' : n ≤ c := by omega
  rw [← hn]
  have HN := hide hn; have HW := hide hw; have HR := hide h
  clear hw hn hl hc h
  go_enter Tryz.func75, Tryz.ntmps75
  go_wp2
  go_loop [0] (fun l => ∃ k : Nat, k ≤ n ∧ Hid (∀ j : Nat, k ≤ j → ws[j]?.getD 0 = 0) ∧ l = .slice A k c) lenOf
  case atStart => exact ⟨n, Nat.le_refl _, fun j hj => by rw [List.getElem?_eq_none (by have := HN.out; omega)]; rfl, rfl⟩
  case round =>
    obtain ⟨k, hk, hz, rfl⟩ := hrel
    by_cases h0 : k = 0
    · subst h0
      go_wp2
      go_ret
      exact ⟨slice_ret (trimmed_of HW.out (by omega) hz.out (by omega)).symm, rfl⟩
    · obtain ⟨m, rfl⟩ : ∃ m, k = m + 1 := ⟨k - 1, by omega⟩
      have hm : m < ws.length := by have := HN.out; omega
      obtain ⟨ad, rfl, hb, hcell⟩ := HR.out.at_ hm
      have hx : ws[m]?.getD 0 = ws[m] := by rw [List.getElem?_eq_getElem hm]; rfl
      obtain ⟨x, hxe⟩ : ∃ x, x = ws[m] := ⟨_, rfl⟩
      rw [← hxe] at hcell hx
      unfold U32 at hcell
      have HX := hide hx
      clear hx hxe hm
      by_cases hx0 : x = 0
      · have hx1 : ((x : Int) == 0) = true := by subst hx0; rfl
        have HX0 := hide hx0
        clear hx0
        go_wp2
        go_round
        case rel => exact ⟨m, by omega, fun j hj => by rcases Nat.eq_or_lt_of_le hj with rfl | hj; (· rw [HX.out, HX0.out]); (· exact hz.out j hj), by first | rfl | simp⟩
        case measure => simp [lenOf]
      · have hx1 : ((x : Int) == 0) = false := by simp; omega
        have HX0 := hide hx0
        clear hx0
        go_wp2
        go_ret
        exact ⟨slice_ret (trimmed_of HW.out (by have := HN.out; omega) hz.out (fun _ => by rw [Nat.add_sub_cancel, HX.out]; exact HX0.out)).symm, rfl⟩
end Go.Proofs.YtmiklffjffdkgaaGreatDoor
end

section
/- Comparisons: cmp.Compare, nat.compare. Conditions: lengths that fit int. -/
open Go.RowKit
namespace Go.Proofs.YtmiklffjffdkgaaGreatDoor
theorem quiet_left {P : Program} {f : FuncId} {args : Array Value} {w : World} {n : Nat} {v : Value}
    (h : Calls P f args (w.drewN n) fun e w' => e = .returned v ∧ w.drewN n = w') : Calls P f args (w.drewN n) fun e w'' => e = .returned v ∧ ∃ m, w'' = w.drewN m :=
  h.mono fun _ _ ⟨he, hm⟩ => ⟨he, n, hm.symm⟩
theorem drew_cell {W w : World} {n : Nat} {p : Addr} {v : Option Value} (h : W = w.drewN n) (hc : w.cell? p = v) : W.cell? p = v := by rw [h]; exact hc
theorem drew_hid {W wr w : World} {n q : Nat} (h : W = wr.drewN n) (hq : Hid (wr = w.drewN q)) : Hid (W = w.drewN (q + n)) := by unfold Hid; rw [h, hq.out, World.drewN_drewN]
theorem drew_more {wr w : World} {n q : Nat} (hq : Hid (wr = w.drewN q)) : Hid (wr.drewN n = w.drewN (q + n)) := by unfold Hid; rw [hq.out, World.drewN_drewN]
theorem drew_end {wr w : World} {n q : Nat} (hq : Hid (wr = w.drewN q)) : ∃ m, wr.drewN n = w.drewN m := ⟨_, (drew_more hq).out⟩
/-- -1, 0 or 1. -/
def cmpI (a b : Nat) : Int := if a < b then -1 else if b < a then 1 else 0
theorem cmpI_lt {a b : Nat} (h : a < b) : cmpI a b = -1 := if_pos h
theorem cmpI_gt {a b : Nat} (h : b < a) : cmpI a b = 1 := by unfold cmpI; rw [if_neg (by omega), if_pos h]
theorem cmpI_eq {a b : Nat} (h : a = b) : cmpI a b = 0 := by unfold cmpI; rw [if_neg (by omega), if_neg (by omega)]
theorem int_ret {k : IntKind} {a b : Int} (h : a = b) : Ending.returned (.int k a) = .returned (.int k b) := by rw [h]
theorem cmpInt_any (a b : Nat) (w : World) :
    Calls Tryz.prog 105 #[.int .i64 a, .int .i64 b] w fun e w' => e = .returned (.int .i64 (cmpI a b)) ∧ w = w' := by
  rcases Nat.lt_trichotomy a b with h | h | h
  · go_enter Tryz.func105, Tryz.ntmps105
    go_wp2
    go_ret
    exact ⟨int_ret (cmpI_lt h).symm, rfl⟩
  · have H := hide h
    have h1 : ¬ a < b := by omega
    have h2 : ¬ b < a := by omega
    clear h
    go_enter Tryz.func105, Tryz.ntmps105
    go_wp2
    go_ret
    exact ⟨int_ret (cmpI_eq H.out).symm, rfl⟩
  · have h1 : ¬ a < b := by omega
    go_enter Tryz.func105, Tryz.ntmps105
    go_wp2
    go_ret
    exact ⟨int_ret (cmpI_gt h).symm, rfl⟩
theorem cmpWord_any (a b : Nat) (w : World) :
    Calls Tryz.prog 106 #[.int .u32 a, .int .u32 b] w fun e w' => e = .returned (.int .i64 (cmpI a b)) ∧ w = w' := by
  rcases Nat.lt_trichotomy a b with h | h | h
  · go_enter Tryz.func106, Tryz.ntmps106
    go_wp2
    go_ret
    exact ⟨int_ret (cmpI_lt h).symm, rfl⟩
  · have H := hide h
    have h1 : ¬ a < b := by omega
    have h2 : ¬ b < a := by omega
    clear h
    go_enter Tryz.func106, Tryz.ntmps106
    go_wp2
    go_ret
    exact ⟨int_ret (cmpI_eq H.out).symm, rfl⟩
  · have h1 : ¬ a < b := by omega
    go_enter Tryz.func106, Tryz.ntmps106
    go_wp2
    go_ret
    exact ⟨int_ret (cmpI_gt h).symm, rfl⟩
def dl (m : Nat) : Nat := (digs W32 m).length
theorem cmpI_len {m n : Nat} (h : dl m ≠ dl n) : cmpI (dl m) (dl n) = cmpI m n := by
  rcases Nat.lt_or_ge (dl m) (dl n) with h1 | h1
  · rw [cmpI_lt h1, cmpI_lt (digs_len_lt (b := W32) (by decide) h1)]
  · rw [cmpI_gt (by omega), cmpI_gt (digs_len_lt (b := W32) (by decide) (show dl n < dl m by omega))]
theorem cmpI_at {m n i : Nat} (hlen : dl m = dl n) (hi : i < dl m) (heq : (digs W32 m).drop (i + 1) = (digs W32 n).drop (i + 1)) {x y : Nat} (hx : (digs W32 m)[i]? = some x) (hy : (digs W32 n)[i]? = some y) (hne : x ≠ y) : cmpI x y = cmpI m n := by
  have key : ∀ {m n x y : Nat}, dl m = dl n → i < dl m → (digs W32 m).drop (i + 1) = (digs W32 n).drop (i + 1) → (digs W32 m)[i]? = some x → (digs W32 n)[i]? = some y → x < y → m < n := by
    intro m n x y hlen hi heq hx hy hlt
    have := val_cmp (b := W32) (digs W32 m) (digs W32 n) i (digs_lt (by decide) m) hlen hi heq (by rw [hx, hy]; exact hlt)
    rwa [val_digs (by decide), val_digs (by decide)] at this
  rcases Nat.lt_or_ge x y with h | h
  · rw [cmpI_lt h, cmpI_lt (key hlen hi heq hx hy h)]
  · rw [cmpI_gt (by omega), cmpI_gt (key hlen.symm (by omega) heq.symm hy hx (by omega))]
set_option maxHeartbeats 1000000 in
theorem compare_any (A A' : Option Addr) (m n : Nat) (c c' : Nat) (w : World) (B : Nat) (h : Rd U32 w B A (digs W32 m)) (h' : Rd U32 w B A' (digs W32 n)) (hl : dl m ≤ 1000000) (hl' : dl n ≤ 1000000) (hc : dl m ≤ c) (hc' : dl n ≤ c') :
    Calls Tryz.prog 74 #[.slice A (dl m) c, .slice A' (dl n) c'] w fun e w' => e = .returned (.int .i64 (cmpI m n)) ∧ ∃ q, w' = w.drewN q := by
  obtain ⟨k, hk⟩ : ∃ k, k = dl m := ⟨_, rfl⟩
  obtain ⟨k', hk'⟩ : ∃ k, k = dl n := ⟨_, rfl⟩
  have HR := hide h; have HR' := hide h'
  rw [← hk] at hl hc ⊢
  rw [← hk'] at hl' hc' ⊢
  have HK := hide hk; have HK' := hide hk'
  clear hk hk' h h'
  by_cases hlen : k = k'
  · subst hlen
    go_enter Tryz.func74, Tryz.ntmps74
    go_wp2
    go_loopw [5] (fun i wr => ∃ j q : Nat, j ≤ k ∧ Hid ((digs W32 m).drop j = (digs W32 n).drop j) ∧ i = .int .i64 ((j : Int) - 1) ∧ Hid (wr = w.drewN q)) (fun i _ => (intOf i + 1).toNat)
    case atStart => exact ⟨k, 0, Nat.le_refl _, by unfold Hid; rw [List.drop_of_length_le (Nat.le_of_eq HK.out.symm), List.drop_of_length_le (Nat.le_of_eq HK'.out.symm)], rfl, rfl⟩
    case round =>
      obtain ⟨j, q, hj, hd, rfl, HQ⟩ := hrel
      by_cases h0 : j = 0
      · subst h0
        go_wp2
        go_ret
        exact ⟨int_ret (cmpI_eq (digs_inj (b := W32) (by decide) hd.out)).symm, q, HQ.out⟩
      · obtain ⟨i, rfl⟩ : ∃ i, j = i + 1 := ⟨j - 1, by omega⟩
        have hi : i < (digs W32 m).length := Nat.lt_of_lt_of_eq (by omega) HK.out
        have hi' : i < (digs W32 n).length := Nat.lt_of_lt_of_eq (by omega) HK'.out
        obtain ⟨ad, rfl, hb, hcell⟩ := HR.out.at_ hi
        obtain ⟨ad', rfl, hb', hcell'⟩ := HR'.out.at_ hi'
        obtain ⟨x, hx⟩ : ∃ x, x = (digs W32 m)[i] := ⟨_, rfl⟩
        obtain ⟨y, hy⟩ : ∃ x, x = (digs W32 n)[i] := ⟨_, rfl⟩
        rw [← hx] at hcell
        rw [← hy] at hcell'
        have HX : Hid ((digs W32 m)[i]? = some x) := by unfold Hid; rw [hx, List.getElem?_eq_getElem hi]
        have HY : Hid ((digs W32 n)[i]? = some y) := by unfold Hid; rw [hy, List.getElem?_eq_getElem hi']
        unfold U32 at hcell hcell'
        replace hcell : wr.cell? (ad.add i) = some (.int .u32 x) := by rw [HQ.out]; exact hcell
        replace hcell' : wr.cell? (ad'.add i) = some (.int .u32 y) := by rw [HQ.out]; exact hcell'
        have hli : i < dl m := hi
        have HLI := hide hli
        have hdrop : x = y → (digs W32 m).drop i = (digs W32 n).drop i := fun e => by
          rw [List.drop_eq_getElem_cons hi, List.drop_eq_getElem_cons hi', ← hx, ← hy, e, hd.out]
        have HD := hide hdrop
        clear hx hy hi hi' hli hdrop
        by_cases hxy : x = y
        · subst hxy
          go_wp2_with fail
          go_quiet (fail)
          go_wp2
          go_roundw
          case rel => exact ⟨i, _, by omega, HD.out (by first | rfl | trivial), rfl, drew_more HQ⟩
          case measure => simp [intOf]
        · go_wp2_with fail
          go_quiet (fail)
          rename_i nq
          obtain ⟨W2, hW2⟩ : ∃ W2, W2 = wr.drewN nq := ⟨_, rfl⟩
          rw [← hW2]
          have HC := drew_cell hW2 hcell
          have HC' := drew_cell hW2 hcell'
          have HW2 := drew_hid hW2 HQ
          clear hW2 hcell hcell' HQ
          go_wp2_with fail
          go_quiet ((go_at_call 106; exact quiet_left (cmpWord_any x y _)))
          go_wp2
          go_ret
          exact ⟨int_ret (cmpI_at (by rw [← HK.out]; exact HK'.out) HLI.out hd.out HX.out HY.out hxy), drew_end HW2⟩
  · go_enter Tryz.func74, Tryz.ntmps74
    go_wp2_with (go_at_call 105; refine (cmpInt_any _ _ _).mono ?_; rintro e w' ⟨rfl, rfl⟩)
    go_ret
    exact ⟨int_ret (by rw [HK.out, HK'.out]; exact cmpI_len (by rw [← HK.out, ← HK'.out]; exact hlen)), 0, rfl⟩
end Go.Proofs.YtmiklffjffdkgaaGreatDoor
end

section
/- A slice that tells a number; Cmp, Good, Of, Low. Conditions: at most 100000 words. -/
open Go.RowKit
namespace Go.Proofs.YtmiklffjffdkgaaGreatDoor
/-- A slice's parts, as an argument: it tells m, perhaps with noughts at its end. -/
def Arg (w : World) (B : Nat) (A : Option Addr) (n c m : Nat) : Prop :=
  ∃ ws : List Nat, n = ws.length ∧ n ≤ c ∧ n ≤ 100000 ∧ Rd U32 w B A ws ∧ Good32 ws ∧ val W32 ws = m
/-- A slice's parts that tell m just. -/
def Can (w : World) (B : Nat) (A : Option Addr) (c m : Nat) : Prop := dl m ≤ c ∧ Rd U32 w B A (digs W32 m)
theorem digs_take {b : Nat} (hb : 2 ≤ b) (l : List Nat) (h : ∀ x ∈ l, x < b) : l.take (digs b (val b l)).length = digs b (val b l) := by
  have key : ∀ k, k ≤ l.length → (∀ j : Nat, k ≤ j → l[j]?.getD 0 = 0) → ∃ i, i ≤ l.length ∧ (∀ j : Nat, i ≤ j → l[j]?.getD 0 = 0) ∧ (0 < i → l[i - 1]?.getD 0 ≠ 0) := by
    intro k
    induction k with
    | zero => exact fun hk hz => ⟨0, hk, hz, fun h => absurd h (by omega)⟩
    | succ k ih =>
      intro hk hz
      by_cases h0 : l[k]?.getD 0 = 0
      · exact ih (by omega) fun j hj => by rcases Nat.eq_or_lt_of_le hj with rfl | hj; (· exact h0); (· exact hz j hj)
      · exact ⟨k + 1, hk, hz, fun _ => h0⟩
  obtain ⟨i, hi, hz, hl⟩ := key l.length (Nat.le_refl _) fun j hj => by rw [List.getElem?_eq_none hj]; rfl
  have e := trim_eq hb l i h hi hz hl
  rw [← e, List.length_take, Nat.min_eq_left hi, e]
section
variable {w w' : World} {B B' : Nat} {A : Option Addr} {n c m : Nat}
theorem Arg.digs (h : Arg w B A n c m) : Can w B A c m ∧ dl m ≤ n := by
  obtain ⟨ws, rfl, hc, hl, hr, hg, rfl⟩ := h
  have hle : dl (val W32 ws) ≤ ws.length := digs_len_le (by decide) ws hg
  refine ⟨⟨by omega, ?_⟩, hle⟩
  have := hr.take (dl (val W32 ws))
  rwa [show ws.take (dl (val W32 ws)) = Go.Proofs.YtmiklffjffdkgaaGreatDoor.digs W32 (val W32 ws) from digs_take (by decide) ws hg] at this
theorem Can.arg (h : Can w B A c m) (hl : dl m ≤ 100000) : Arg w B A (dl m) c m :=
  ⟨Go.Proofs.YtmiklffjffdkgaaGreatDoor.digs W32 m, rfl, h.1, hl, h.2, digs_lt (by decide) m, val_digs (by decide) m⟩
theorem Arg.below (h : Arg w B A n c m) (hb : Below B w w') : Arg w' B A n c m := by
  obtain ⟨ws, h1, h2, h3, hr, h4⟩ := h
  exact ⟨ws, h1, h2, h3, hr.below hb, h4⟩
theorem Arg.more (h : Arg w B A n c m) (hb : B ≤ B') : Arg w B' A n c m := by
  obtain ⟨ws, h1, h2, h3, hr, h4⟩ := h
  exact ⟨ws, h1, h2, h3, hr.more hb, h4⟩
theorem Can.below (h : Can w B A c m) (hb : Below B w w') : Can w' B A c m := ⟨h.1, h.2.below hb⟩
theorem Can.more (h : Can w B A c m) (hb : B ≤ B') : Can w B' A c m := ⟨h.1, h.2.more hb⟩
theorem Can.drewN (h : Can w B A c m) (k : Nat) : Can (w.drewN k) B A c m := h
end
theorem trim_arg {A : Option Addr} {n c m : Nat} {w : World} {B : Nat} (h : Arg w B A n c m) :
    Calls Tryz.prog 75 #[.slice A n c] w fun e w' => e = .returned (.slice A (dl m) c) ∧ w = w' := by
  obtain ⟨ws, rfl, hc, hl, hr, hg, rfl⟩ := h
  exact trim_any A ws c w B hr hg (by omega) hc
theorem compare_can {A A' : Option Addr} {m n : Nat} {c c' : Nat} {w : World} {B : Nat} (h : Can w B A c m) (h' : Can w B A' c' n) (hl : dl m ≤ 100000) (hl' : dl n ≤ 100000) :
    Calls Tryz.prog 74 #[.slice A (dl m) c, .slice A' (dl n) c'] w fun e w' => e = .returned (.int .i64 (cmpI m n)) ∧ ∃ q, w' = w.drewN q :=
  compare_any A A' m n c c' w B h.2 h'.2 (by omega) (by omega) h.1 h'.1
theorem below_drewN {B : Nat} {a w : World} (h : Below B a w) (n : Nat) : Below B a (w.drewN n) := ⟨h.os, h.tape, h.output, h.size, h.block⟩
/-- Two allocations and draws later. -/
theorem below2 (w : World) (o1 o2 : Obj) (k : Nat) : Below w.heap.size w (((w.alloc o1).alloc o2).drewN k) :=
  below_drewN (((Below.refl _ _).alloc (Nat.le_refl _) _).alloc (by simp) _) k
set_option maxHeartbeats 1000000 in
theorem Cmp_any {A A' : Option Addr} {n n' c c' m m' : Nat} {w : World} (h : Arg w w.heap.size A n c m) (h' : Arg w w.heap.size A' n' c' m') :
    Calls Tryz.prog 31 #[.agg #[.slice A n c], .agg #[.slice A' n' c']] w fun e w' => e = .returned (.int .i64 (cmpI m m')) ∧ Below w.heap.size w w' := by
  have H : Hid (∀ o1 o2 k, Arg (((w.alloc o1).alloc o2).drewN k) w.heap.size A n c m) := fun o1 o2 k => h.below (below2 w o1 o2 k)
  have H' : Hid (∀ o1 o2 k, Arg (((w.alloc o1).alloc o2).drewN k) w.heap.size A' n' c' m') := fun o1 o2 k => h'.below (below2 w o1 o2 k)
  have hl : dl m ≤ 100000 := by have := h.digs.2; obtain ⟨_, _, _, h3, _⟩ := h; omega
  have hl' : dl m' ≤ 100000 := by have := h'.digs.2; obtain ⟨_, _, _, h3, _⟩ := h'; omega
  clear h h'
  go_enter Tryz.func31, Tryz.ntmps31
  go_wp2_with fail
  go_quiet (first | (go_at_call 75; first | exact quiet_left (trim_arg (H.out _ _ _)) | exact quiet_left (trim_arg (H'.out _ _ _))) | (go_at_call 74; exact Calls.quiet_of (compare_can (H.out _ _ _).digs.1 (H'.out _ _ _).digs.1 hl hl')))
  go_wp2
  go_ret
  exact ⟨rfl, below2 _ _ _ _⟩
end Go.Proofs.YtmiklffjffdkgaaGreatDoor
end

section
/- A block of the call's own, known whole; fresh. Conditions: at most 100000 words. -/
open Go.RowKit
set_option maxRecDepth 100000
namespace Go.Proofs.YtmiklffjffdkgaaGreatDoor
/-- Block g holds just l, each by f, none frozen. -/
def Blk (f : Nat → Value) (t : TypeId) (w : World) (g : Nat) (l : List Nat) : Prop := w.heap[g]? = some (.cells (l.map f).toArray t (0, 0))
section
variable {f : Nat → Value} {t : TypeId} {w w' : World} {g : Nat} {l : List Nat}
theorem Blk.lt (h : Blk f t w g l) : g < w.heap.size := by
  rcases Nat.lt_or_ge g w.heap.size with hlt | hge
  · exact hlt
  · unfold Blk at h; rw [Array.getElem?_eq_none hge] at h; cases h
theorem Blk.cell (h : Blk f t w g l) {i x : Nat} (hx : l[i]? = some x) : w.cell? ⟨g, i, none⟩ = some (f x) := by
  rw [cell_of_row w g i _ t (0, 0) h]; simp [hx]
theorem Blk.frozen (h : Blk f t w g l) (i : Nat) : w.frozen? ⟨g, i, none⟩ = false := by
  unfold Blk at h; simp [World.frozen?, h]
theorem Blk.drewN (h : Blk f t w g l) (n : Nat) : Blk f t (w.drewN n) g l := h
theorem Blk.alloc (h : Blk f t w g l) (o : Obj) : Blk f t (w.alloc o) g l := (Below.heap_alloc w o g h.lt).trans h
theorem Blk.set_ (h : Blk f t w g l) (i v : Nat) : Blk f t (w.setCell ⟨g, i, none⟩ (f v)) g (l.set i v) := by
  unfold Blk at h ⊢
  simp [World.setCell, Array.getElem?_modify, h, List.map_set]
theorem Blk.far (h : Blk f t w g l) {p : Addr} (hp : g ≠ p.block) (u : Value) : Blk f t (w.setCell p u) g l := (Below.heap_setCell w p u g hp).trans h
theorem Blk.below {B : Nat} (h : Blk f t w g l) (hb : Below B w w') (hg : g < B) : Blk f t w' g l := (hb.block g hg).trans h
theorem Blk.grown {row : Option Nat} (h : Blk f t w g l) (hb : w.grownBy w' row) (hg : some g ≠ row) : Blk f t w' g l := (hb.block g h.lt hg).trans h
/-- A part of the block, read. -/
theorem Blk.rd (h : Blk f t w g l) {B : Nat} (hB : g < B) (off k : Nat) : Rd f w B (some ⟨g, off, none⟩) ((l.drop off).take k) := fun _ => by
  refine ⟨_, rfl, hB, fun j x hx => ?_⟩
  rw [List.getElem?_take] at hx
  split at hx
  · rw [List.getElem?_drop] at hx
    have e : (⟨g, off, none⟩ : Addr).add j = ⟨g, off + j, none⟩ := by unfold Addr.add; split <;> simp_all
    rw [e]
    exact h.cell hx
  · cases hx
theorem Blk.rd0 (h : Blk f t w g l) {B : Nat} (hB : g < B) : Rd f w B (some ⟨g, 0, none⟩) l := by
  have := h.rd hB 0 l.length
  rwa [List.drop_zero, List.take_length] at this
end
theorem made_zeros (w : World) (t : TypeId) (k : IntKind) (n : Nat) : Blk (fun x => .int k (x : Int)) t (w.alloc (.cells (madeCells #[.int k 0] n) t)) w.heap.size (List.replicate n 0) := by
  unfold Blk
  rw [heap_alloc_new]
  congr 2
  apply Array.ext
  · simp [size_madeCells]
  · intro i h1 h2
    simp [madeCells, Nat.mod_one]
theorem Tryz.infoU32 : (Tryz.prog.info? 92).map (fun i => (i.zero, i.size, i.bytes)) = some (some (.int .u32 0), 1, 4) := by kernel_rfl
theorem Tryz.infoU8 : (Tryz.prog.info? 5).map (fun i => (i.zero, i.size, i.bytes)) = some (some (.int .u8 0), 1, 1) := by kernel_rfl
theorem Tryz.infoInt : (Tryz.prog.info? 3).map (fun i => (i.zero, i.size, i.bytes)) = some (some (.int .i64 0), 1, 8) := by kernel_rfl
/-- make([]uint32, n). -/
theorem make_words (n : Nat) (hn : n ≤ 1000000) (w : World) : (Instr.makeSlice 22 (.int .i64 (n : Int)) (.int .i64 (n : Int))).run Tryz.prog w =
    .ok (.slice (some ⟨w.heap.size, 0, none⟩) n n) (w.alloc (.cells (madeCells #[.int .u32 0] n) 92)) := by
  obtain ⟨i0, hi0, hz0, hz1, hz2⟩ := info_parts Tryz.infoU32
  have h := run_make (P := Tryz.prog) w 22 92 i0 (.int .u32 0) Tryz.underlying22 hi0 hz0 .i64 .i64 n n (by omega) (by omega) (by rw [hz2]; omega) (by omega)
  simpa [hz1, Value.cells] using h
theorem made_u32 (w : World) (n : Nat) : Blk U32 92 (w.alloc (.cells (madeCells #[.int .u32 0] n) 92)) w.heap.size (List.replicate n 0) := made_zeros w _ _ n
theorem wpList_made {P : Program} {w w1 : World} {ops : Array Oper} {rest : List Oper} {o : Oper} {a : Act} {Q : Exit → Act → World → Prop} (hgd : o.guard = none) (l c : Operand) (t : TypeId) (hop : o.op = Op.makeSlice t l c)
    (v u r : Value) (hl : a.eval l = v) (hc : a.eval c = u) (hrun : (Instr.makeSlice t v u).run P w = .ok r w1) (h : wpList P ops Q rest (a.put o.dst r) w1) : wpList P ops Q (o :: rest) a w := by
  refine wpList_plain hgd fun K hK => ?_
  unfold Oper.wp
  simp [execOp, hop, hl, hc, hrun, Result.andThen]
  exact hK _ _ h
/-- The walk's step at a make([]uint32, n). -/
theorem wpList_words {w : World} {ops : Array Oper} {rest : List Oper} {o : Oper} {a : Act} {Q : Exit → Act → World → Prop} (hgd : o.guard = none) (l c : Operand) (hop : o.op = Op.makeSlice 22 l c)
    (n : Nat) (hl : a.eval l = .int .i64 (n : Int)) (hc : a.eval c = .int .i64 (n : Int)) (hn : n ≤ 1000000)
    (h : ∀ g w', Hid (g = w.heap.size) → Hid (Blk U32 92 w' g (List.replicate n 0)) → Below w.heap.size w w' → wpList Tryz.prog ops Q rest (a.put o.dst (.slice (some ⟨g, 0, none⟩) n n)) w') : wpList Tryz.prog ops Q (o :: rest) a w :=
  wpList_made hgd l c _ hop _ _ _ hl hc (make_words n hn w) (h _ _ rfl (made_u32 w n) ((Below.refl _ _).alloc (Nat.le_refl _) _))
theorem nth_U32 {l : List Nat} {B : Nat} {w : World} {A : Option Addr} (h : Rd U32 w B A l) : 0 < (l.map U32).length → ∃ ad, A = some ad ∧ ∀ j v, (l.map U32)[j]? = some v → w.cell? (ad.add j) = some v := fun h0 => by
  obtain ⟨ad, e, _, hc⟩ := h (by simpa using h0)
  refine ⟨ad, e, fun j v hv => ?_⟩
  rw [List.getElem?_map] at hv
  cases hx : l[j]? with
  | none => rw [hx] at hv; cases hv
  | some x => rw [hx] at hv; cases hv; exact hc j x hx
theorem one_U32 (l : List Nat) : ∀ v ∈ l.map U32, v.oneCell' = true := by
  intro v hv
  obtain ⟨x, _, rfl⟩ := List.mem_map.1 hv
  rfl
theorem splice_all {α : Type} (L cs : List α) (h : L.length = cs.length) : splice L 0 cs = cs := by simp [splice, h]
/-- What fresh leaves: a slice over a new block. -/
def NewWords (w : World) (ws : List Nat) (e : Ending) (w' : World) : Prop := ∃ g, e = .returned (.slice (some ⟨g, 0, none⟩) ws.length ws.length) ∧ w.heap.size ≤ g ∧ Blk U32 92 w' g ws ∧ Below w.heap.size w w'
set_option maxHeartbeats 400000 in
theorem fresh_any {A : Option Addr} {ws : List Nat} {n c : Nat} {w : World} (hn : n = ws.length) (h : Rd U32 w w.heap.size A ws) (hl : n ≤ 1000000) :
    Calls Tryz.prog 89 #[.slice A n c] w (NewWords w ws) := by
  have HN := hide hn
  have HR := hide h
  clear hn h
  go_enter Tryz.func89, Tryz.ntmps89
  go_wp2_with (first | (at_make; go_must (refine wpList_words rfl _ _ rfl n rfl rfl hl ?_; intro g w1 hg hb1 hbel)) | (refine wpList_copy_splice (o := ⟨some 9, _, _, _, _, _⟩) rfl (.tmp 7) (.tmp 8) _ _ rfl 92 Tryz.underlying22 (by kernel_rfl) _ _ _ _ _ _ rfl rfl g 0 ((List.replicate n 0).map U32) 92 hb1.out (ws.map U32) (by rw [List.length_map, ← HN.out]; exact (Nat.min_self n).symm) (fun h0 => ⟨rfl, nth_U32 (HR.out.below hbel) h0⟩) (by simp [← HN.out]) (one_U32 ws) w.heap.size w hbel (by rw [hg.out]; exact Nat.le_refl _) ?_; intro w2 hb2 hbel2))
  go_ret
  refine ⟨g, by rw [← HN.out]; rfl, by rw [hg.out]; exact Nat.le_refl _, ?_, hbel2⟩
  have h2 := hb2.out
  rw [splice_all _ _ (by simp [← HN.out])] at h2
  exact h2
def NewCan (w : World) (m : Nat) (e : Ending) (w' : World) : Prop := ∃ g, e = .returned (.slice (some ⟨g, 0, none⟩) (dl m) (dl m)) ∧ Hid (w.heap.size ≤ g) ∧ Hid (Blk U32 92 w' g (digs W32 m)) ∧ Hid (Below w.heap.size w w')
theorem fresh_can {A : Option Addr} {m c : Nat} {w : World} (h : Rd U32 w w.heap.size A (digs W32 m)) (hl : dl m ≤ 1000000) : Calls Tryz.prog 89 #[.slice A (dl m) c] w (NewCan w m) :=
  (fresh_any (show dl m = (digs W32 m).length from rfl) h hl).mono fun _ _ h => h
end Go.Proofs.YtmiklffjffdkgaaGreatDoor
end

section
/- Plain mathematics on words and wraps, without conditions on memory. -/
open Go.RowKit
namespace Go.Proofs.YtmiklffjffdkgaaGreatDoor
theorem val_take_succ (b : Nat) {L : List Nat} {i x : Nat} (h : L[i]? = some x) : val b (L.take (i + 1)) = val b (L.take i) + b ^ i * x := by
  have hi : i < L.length := by
    rcases Nat.lt_or_ge i L.length with h1 | h1
    · exact h1
    · rw [List.getElem?_eq_none h1] at h; cases h
  rw [List.take_succ_eq_append_getElem hi, val_snoc, List.length_take, Nat.min_eq_left (by omega)]
  rw [List.getElem?_eq_getElem hi] at h
  injection h with h
  rw [h]
theorem set_mid {P seg l : List Nat} {o i v : Nat} (hP : P.length = o) (hs : seg.length = i) (hl : o + i < l.length) : (P ++ (seg ++ l.drop (o + i))).set (o + i) v = P ++ ((seg ++ [v]) ++ l.drop (o + (i + 1))) := by
  rw [List.set_append, if_neg (by omega), List.set_append, if_neg (by omega), List.drop_eq_getElem_cons hl, show o + i - P.length - seg.length = 0 by omega, List.set_cons_zero]
  simp [Nat.add_assoc]
theorem get_mid {P seg l : List Nat} {o i : Nat} (hP : P.length = o) (hs : seg.length = i) : (P ++ (seg ++ l.drop (o + i)))[o + i]? = l[o + i]? := by
  rw [List.getElem?_append_right (by omega), List.getElem?_append_right (by omega), List.getElem?_drop]
  congr 1; omega
theorem good_snoc {l : List Nat} {x : Nat} (h : Good32 l) (hx : x < W32) : Good32 (l ++ [x]) := by
  intro y hy
  rcases List.mem_append.1 hy with hy | hy
  · exact h y hy
  · simp at hy; subst hy; exact hx
theorem addmul_math {P V t q r cr y f s VA VY W : Nat} (h : V + P * cr = VA + f * VY) (ht : t = cr + (y * f + s)) (hq : r + W * q = t) : V + P * r + P * W * q = VA + P * s + f * (VY + P * y) := by
  have e1 : P * r + P * W * q = P * t := by rw [← hq, Nat.mul_add, Nat.mul_assoc]
  have e2 : P * t = P * cr + (P * (y * f) + P * s) := by rw [ht, Nat.mul_add, Nat.mul_add]
  have e3 : f * (P * y) = P * (y * f) := by rw [Nat.mul_comm y f, Nat.mul_left_comm]
  rw [Nat.mul_add f, e3]; omega
theorem prod_le {y f : Nat} (hy : y < W32) (hf : f < W32) : y * f ≤ 4294967295 * 4294967295 := Nat.mul_le_mul (by rw [W32_eq] at hy; omega) (by rw [W32_eq] at hf; omega)
theorem u64_nat {n : Nat} (h : n ≤ 18446744073709551615) : IntKind.u64.wrap (n : Int) = (n : Int) := IntWalk.u64_in _ ⟨by omega, by omega⟩
theorem u64_word {n : Nat} (h : n < W32) : IntKind.u64.wrap (n : Int) = (n : Int) := u64_nat (by rw [W32_eq] at h; omega)
theorem addmul_wrap {y f s cr : Nat} (hy : y < W32) (hf : f < W32) (hs : s < W32) (hc : cr < W32) :
    IntKind.u64.wrap ((cr : Int) + IntKind.u64.wrap (IntKind.u64.wrap (IntKind.u64.wrap (y : Int) * IntKind.u64.wrap (f : Int)) + IntKind.u64.wrap (s : Int))) = ((cr + (y * f + s) : Nat) : Int) := by
  have hp := prod_le hy hf
  rw [W32_eq] at hs hc
  rw [u64_word hy, u64_word hf, u64_word (n := s) (by rw [W32_eq]; exact hs), ← Int.natCast_mul, u64_nat (by omega), ← Int.natCast_add, u64_nat (by omega), ← Int.natCast_add, u64_nat (by omega)]
theorem hi32 (t : Nat) : ((t : Nat) : Int) / 4294967296 = ((t / W32 : Nat) : Int) := rfl
theorem lo32 (t : Nat) : ((t : Nat) : Int) % 4294967296 = ((t % W32 : Nat) : Int) := rfl
theorem lohi (t : Nat) : t % W32 + W32 * (t / W32) = t := Nat.mod_add_div t W32
theorem lo_lt (t : Nat) : t % W32 < W32 := Nat.mod_lt _ (by decide)
theorem addmul_hi {y f s cr : Nat} (hy : y < W32) (hf : f < W32) (hs : s < W32) (hc : cr < W32) : (cr + (y * f + s)) / W32 < W32 := by
  have hp := prod_le hy hf
  rw [W32_eq] at hs hc ⊢; omega
theorem mul_round {seg seg2 : List Nat} {i k c word m' X z : Nat} (hlen : seg.length = i + k) (h2 : seg2.length = k) (hv : val W32 seg = X * m')
    (h : val W32 seg2 + W32 ^ k * c = val W32 (((seg ++ List.replicate z 0).drop i).take k) + word * m') : val W32 (seg.take i ++ (seg2 ++ [c])) = (X + W32 ^ i * word) * m' := by
  rw [val_append, val_snoc, h2, List.length_take, Nat.min_eq_left (by omega), h]
  have e1 : ((seg ++ List.replicate z 0).drop i).take k = seg.drop i := by
    rw [List.drop_append_of_le_length (by omega), List.take_append_of_le_length (by rw [List.length_drop]; omega), List.take_of_length_le (by rw [List.length_drop]; omega)]
  have e2 : val W32 seg = val W32 (seg.take i) + W32 ^ i * val W32 (seg.drop i) := by
    have := val_append W32 (seg.take i) (seg.drop i)
    rwa [List.take_append_drop, List.length_take, Nat.min_eq_left (by omega)] at this
  rw [e1, Nat.mul_add, ← Nat.add_assoc, ← e2, hv, Nat.add_mul, Nat.mul_assoc]
theorem mul_list {seg seg2 : List Nat} {i k c z : Nat} (hlen : seg.length = i + k) (h2 : seg2.length = k) :
    ((seg ++ List.replicate (z + 1) 0).take i ++ (seg2 ++ (seg ++ List.replicate (z + 1) 0).drop (i + k))).set (i + k) c = (seg.take i ++ (seg2 ++ [c])) ++ List.replicate z 0 := by
  rw [List.take_append_of_le_length (by omega), List.drop_append, List.drop_of_length_le (by omega), hlen, Nat.sub_self, List.drop_zero, List.nil_append, List.replicate_succ]
  rw [List.set_append, if_neg (by rw [List.length_take]; omega), List.set_append, if_neg (by rw [List.length_take]; omega), show i + k - (List.take i seg).length - seg2.length = 0 by rw [List.length_take]; omega, List.set_cons_zero]
  simp
theorem mul_cell {seg seg2 : List Nat} {i k z : Nat} (hlen : seg.length = i + k) (h2 : seg2.length = k) :
    ((seg ++ List.replicate (z + 1) 0).take i ++ (seg2 ++ (seg ++ List.replicate (z + 1) 0).drop (i + k)))[i + k]? = some 0 := by
  rw [List.take_append_of_le_length (by omega), List.drop_append, List.drop_of_length_le (by omega), hlen, Nat.sub_self, List.drop_zero, List.nil_append, List.replicate_succ]
  rw [List.getElem?_append_right (by rw [List.length_take]; omega), List.getElem?_append_right (by rw [List.length_take]; omega), show i + k - (List.take i seg).length - seg2.length = 0 by rw [List.length_take]; omega]
  rfl
theorem good_zeros {l : List Nat} (h : Good32 l) (z : Nat) : Good32 (l ++ List.replicate z 0) := by
  intro x hx
  rcases List.mem_append.1 hx with hx | hx
  · exact h x hx
  · rw [(List.mem_replicate.1 hx).2]; decide
theorem good_app {l m : List Nat} (h : Good32 l) (hm : Good32 m) : Good32 (l ++ m) := by
  intro x hx
  rcases List.mem_append.1 hx with hx | hx
  · exact h x hx
  · exact hm x hx
theorem good_take {l : List Nat} (h : Good32 l) (k : Nat) : Good32 (l.take k) := fun x hx => h x (List.mem_of_mem_take hx)
theorem good_drop {l : List Nat} (h : Good32 l) (k : Nat) : Good32 (l.drop k) := fun x hx => h x (List.mem_of_mem_drop hx)
theorem good_digs (m : Nat) : Good32 (digs W32 m) := digs_lt (by decide) m
theorem val_digs32 (m : Nat) : val W32 (digs W32 m) = m := val_digs (by decide) m
theorem set_zeros {seg : List Nat} {i v z : Nat} (h : seg.length = i) : (seg ++ List.replicate (z + 1) 0).set i v = (seg ++ [v]) ++ List.replicate z 0 := by
  rw [List.set_append, if_neg (by omega), h, Nat.sub_self, List.replicate_succ, List.set_cons_zero]; simp
theorem get_zeros {seg : List Nat} {i z : Nat} (h : seg.length = i) : (seg ++ List.replicate (z + 1) 0)[i]? = some 0 := by
  rw [List.getElem?_append_right (by omega), h, Nat.sub_self]; rfl
theorem val_take_more (b : Nat) {L : List Nat} {i : Nat} (h : L.length ≤ i) : val b (L.take (i + 1)) = val b (L.take i) := by
  rw [List.take_of_length_le h, List.take_of_length_le (by omega)]
theorem add_math {P V t q r cr x VA VB W : Nat} (h : V + P * cr = VA + VB) (ht : t = cr + x) (hq : r + W * q = t) : V + P * r + P * W * q = VA + VB + P * x := by
  have e1 : P * r + P * W * q = P * t := by rw [← hq, Nat.mul_add, Nat.mul_assoc]
  have e2 : P * t = P * cr + P * x := by rw [ht, Nat.mul_add]
  omega
theorem sub_math {P V A B W r q x t b y : Nat} (h : V + B = A + P * b) (ht : t = b + y) (hq : r + t = x + W * q) : V + P * r + (B + P * y) = A + P * x + P * W * q := by
  have e1 : P * r + P * t = P * x + P * W * q := by rw [← Nat.mul_add, hq, Nat.mul_add, Nat.mul_assoc]
  have e2 : P * t = P * b + P * y := by rw [ht, Nat.mul_add]
  omega
theorem sub_wrap {x t : Nat} (hx : x < W32) (ht : t ≤ W32) (hlt : x < t) : IntKind.u64.wrap ((x : Int) - (t : Int)) % 4294967296 = ((W32 + x - t : Nat) : Int) ∧ IntKind.u64.wrap ((x : Int) - (t : Int)) / 9223372036854775808 = 1 := by
  rw [IntKind.wrap_u64]
  rw [W32_eq] at *
  omega
theorem or_pow (a b i : Nat) (hb : b < 2 ^ i) : a * 2 ^ i ||| b = a * 2 ^ i + b := by
  rw [Nat.mul_comm, ← Nat.two_pow_add_eq_or_of_lt hb]
theorem or64 {hi lo : Nat} (h1 : hi ≤ 4294967295) (h2 : lo ≤ 4294967295) : bits .or .u64 ((hi : Int) * 4294967296) (lo : Int) = ((hi * 4294967296 + lo : Nat) : Int) := by
  rw [show ((hi : Int) * 4294967296) = ((hi * 4294967296 : Nat) : Int) by omega, u64_or_nat _ _ (by omega) (by omega), or_pow hi lo 32 (by omega)]
theorem word_le {x : Nat} (h : x < W32) : x ≤ 4294967295 := by rw [W32_eq] at h; omega
theorem exists_zeros {b : Nat} (hb : 2 ≤ b) (l : List Nat) (h : ∀ x ∈ l, x < b) : ∃ k, l = digs b (val b l) ++ List.replicate k 0 := by
  induction l with
  | nil => exact ⟨0, by simp [val, digs_zero]⟩
  | cons x xs ih =>
    obtain ⟨k, hk⟩ := ih fun y hy => h y (by simp [hy])
    have hx := h x (by simp)
    rcases Nat.eq_zero_or_pos (val b (x :: xs)) with h0 | h0
    · refine ⟨k + 1, ?_⟩
      simp only [val] at h0
      have hx0 : x = 0 := by omega
      have hv : val b xs = 0 := by
        rcases Nat.eq_zero_or_pos (val b xs) with h1 | h1
        · exact h1
        · have := Nat.mul_pos (show 0 < b by omega) h1; omega
      rw [hv, digs_zero, List.nil_append] at hk
      subst hx0
      rw [show val b (0 :: xs) = 0 by simp [val, hv], digs_zero, List.nil_append, List.replicate_succ, ← hk]
    · refine ⟨k, ?_⟩
      rw [digs_pos hb h0]
      simp only [val]
      rw [Nat.add_mul_mod_self_left, Nat.mod_eq_of_lt hx, Nat.add_mul_div_left _ _ (by omega), Nat.div_eq_of_lt hx, Nat.zero_add, List.cons_append, ← hk]
theorem text_math {D P v g q r d m : Nat} (h : D + P * v = m) (hv : v = q * d + g) (hr : g = r) : D + P * (r + d * q) = m := by
  subst hr
  rw [← h, hv, Nat.mul_comm q d, Nat.add_comm g]
theorem digit_math {D P g T v m : Nat} (h : D + P * (g + 10 * T * v) = m) : (D + P * (g % 10)) + P * 10 * (g / 10 + T * v) = m := by
  have e : g + 10 * T * v = g % 10 + 10 * (g / 10 + T * v) := by rw [Nat.mul_add, ← Nat.add_assoc, Nat.mod_add_div, Nat.mul_assoc]
  rw [← h, e, Nat.mul_add P, Nat.mul_assoc P 10]; omega
end Go.Proofs.YtmiklffjffdkgaaGreatDoor
end

section
/- addMultiple: words in place. Conditions: at most 100000 words. -/
open Go.RowKit
set_option maxRecDepth 100000
namespace Go.Proofs.YtmiklffjffdkgaaGreatDoor
theorem grown_drewN {a w : World} {row : Option Nat} (h : a.grownBy w row) (n : Nat) : a.grownBy (w.drewN n) row := ⟨h.os, h.tape, h.output, h.size, h.block⟩
theorem grown_set {a w : World} {g : Nat} (h : a.grownBy w (some g)) (i : Nat) (u : Value) : a.grownBy (w.setCell ⟨g, i, none⟩ u) (some g) :=
  ⟨h.os, h.tape, h.output, by simpa [World.setCell] using h.size, fun k hk hne => (Below.heap_setCell w _ u k (by rintro rfl; exact hne rfl)).trans (h.block k hk hne)⟩
theorem grown_below {w w' : World} {g B : Nat} (h : w.grownBy w' (some g)) (hB : B ≤ g) (hg : g < w.heap.size) : Below B w w' :=
  ⟨h.os, h.tape, h.output, h.size, fun k hk => h.block k (by omega) (by intro e; injection e; omega)⟩
theorem Rd.grown {f : Nat → Value} {w w' : World} {B g : Nat} {A : Option Addr} {xs : List Nat} (h : Rd f w B A xs) (hg : w.grownBy w' (some g)) (hB : B ≤ g) : Rd f w' B A xs := fun hn => by
  obtain ⟨ad, e, hb, hc⟩ := h hn
  exact ⟨ad, e, hb, fun j u hu => hg.cell (hc j u hu) (by rw [block_add]; intro e; injection e; omega)⟩
theorem grown_trans {a b c : World} {row : Option Nat} (h : a.grownBy b row) (k : b.grownBy c row) : a.grownBy c row :=
  ⟨k.os.trans h.os, k.tape.trans h.tape, k.output.trans h.output, Nat.le_trans h.size k.size, fun i hi hne => (k.block i (Nat.lt_of_lt_of_le hi h.size) hne).trans (h.block i hi hne)⟩
/-- trim over words of the call's own. -/
theorem trim_own {w : World} {g n c v : Nat} {seg : List Nat} (h : Blk U32 92 w g seg) (hn : n = seg.length) (hg : Good32 seg) (hl : n ≤ 1000000) (hc : n ≤ c) (hv : val W32 seg = v) :
    Calls Tryz.prog 75 #[.slice (some ⟨g, 0, none⟩) n c] w fun e w' => e = .returned (.slice (some ⟨g, 0, none⟩) (dl v) c) ∧ w = w' := by
  subst hn; subst hv
  exact trim_any _ seg c w w.heap.size (h.rd0 h.lt) hg hl hc
/-- What the words of the call's own tell. -/
theorem can_own {w : World} {g n c v : Nat} {seg : List Nat} (h : Blk U32 92 w g seg) (hn : n = seg.length) (hg : Good32 seg) (hc : n ≤ c) (hv : val W32 seg = v) : Can w w.heap.size (some ⟨g, 0, none⟩) c v := by
  subst hn; subst hv
  have hle : dl (val W32 seg) ≤ seg.length := digs_len_le (by decide) seg hg
  refine ⟨by omega, ?_⟩
  have := (h.rd0 h.lt).take (dl (val W32 seg))
  rwa [show seg.take (dl (val W32 seg)) = digs W32 (val W32 seg) from digs_take (by decide) seg hg] at this
/-- What a call leaves that returns a number. -/
def NumPost (w : World) (v : Nat) (e : Ending) (w' : World) : Prop := ∃ A c, e = .returned (.agg #[.slice A (dl v) c]) ∧ Can w' w'.heap.size A c v ∧ Below w.heap.size w w'
theorem pre3 (w : World) (o1 o2 : Obj) (v : Value) (t : TypeId) (k : Nat) :
    Below w.heap.size w ((((w.alloc o1).alloc o2).alloc (.cells #[v] t)).drewN k) ∧ ((((w.alloc o1).alloc o2).alloc (.cells #[v] t)).drewN k).heap.size = w.heap.size + 3 ∧
    ((((w.alloc o1).alloc o2).alloc (.cells #[v] t)).drewN k).heap[w.heap.size + 2]? = some (.cells #[v] t (0, 0)) := by
  refine ⟨below_drewN ((((Below.refl _ _).alloc (Nat.le_refl _) _).alloc (by simp) _).alloc (by simp; omega) _) k, by simp, ?_⟩
  have := heap_alloc_new ((w.alloc o1).alloc o2) (.cells #[v] t)
  simpa using this
theorem after3 {w w1 : World} {o1 o2 : Obj} {v : Value} {t : TypeId} {k : Nat} (h : Below ((((w.alloc o1).alloc o2).alloc (.cells #[v] t)).drewN k).heap.size ((((w.alloc o1).alloc o2).alloc (.cells #[v] t)).drewN k) w1) :
    Below w.heap.size w w1 ∧ w1.heap[w.heap.size + 2]? = some (.cells #[v] t (0, 0)) ∧ w.heap.size + 3 ≤ w1.heap.size := by
  obtain ⟨p1, p2, p3⟩ := pre3 w o1 o2 v t k
  exact ⟨p1.trans (h.mono p1.size), (h.block _ (by omega)).trans p3, by have := h.size; omega⟩
theorem one_cell {w : World} {g : Nat} {v : Value} {t : TypeId} (h : w.heap[g]? = some (.cells #[v] t (0, 0))) : w.cell? ⟨g, 0, none⟩ = some v ∧ w.frozen? ⟨g, 0, none⟩ = false := by
  refine ⟨?_, ?_⟩
  · rw [cell_of_row w g 0 _ t (0, 0) h]; rfl
  · simp [World.frozen?, h]
def AddMulPost (w : World) (g o k f : Nat) (l ys : List Nat) (e : Ending) (w' : World) : Prop :=
  ∃ (seg : List Nat) (c : Nat), e = .returned (.int .u32 (c : Int)) ∧ Hid (seg.length = k) ∧ Hid (Good32 seg) ∧ Hid (c < W32) ∧ Hid (val W32 seg + W32 ^ k * c = val W32 ((l.drop o).take k) + f * val W32 ys) ∧
    Blk U32 92 w' g (l.take o ++ (seg ++ l.drop (o + k))) ∧ w.grownBy w' (some g)
set_option maxHeartbeats 1000000 in
theorem addMultiple_any {A : Option Addr} {g o k c c' f B : Nat} {l ys : List Nat} {w : World} (hb : Blk U32 92 w g l) (hr : Rd U32 w B A ys) (hB : B ≤ g) (hk : k = ys.length) (ho : o + k ≤ l.length)
    (hl : Good32 l) (hy : Good32 ys) (hf : f < W32) (hlim : l.length ≤ 1000000) :
    Calls Tryz.prog 99 #[.slice (some ⟨g, o, none⟩) k c, .slice A k c', .int .u32 (f : Int)] w (AddMulPost w g o k f l ys) := by
  have HB := hide hb; have HR := hide hr; have HK := hide hk; have HL := hide hl; have HY := hide hy; have HF := hide hf; have HO := hide ho
  have hkl : k ≤ 1000000 := by omega
  clear hb hr hk hl hy hf hlim ho
  go_enter Tryz.func99, Tryz.ntmps99
  go_wp2
  go_loopw [7, 12] (fun cv iv wr => ∃ i cr : Nat, ∃ seg : List Nat, i ≤ k ∧ Hid (cr < W32) ∧ iv = .int .i64 (i : Int) ∧ cv = .int .u64 (cr : Int) ∧ Hid (seg.length = i) ∧ Hid (Good32 seg) ∧
      Hid (val W32 seg + W32 ^ i * cr = val W32 ((l.drop o).take i) + f * val W32 (ys.take i)) ∧ Hid (Blk U32 92 wr g (l.take o ++ (seg ++ l.drop (o + i)))) ∧ Hid (w.grownBy wr (some g)))
    (fun _ iv _ => k - (intOf iv).toNat)
  case atStart => exact ⟨0, 0, [], Nat.zero_le _, by unfold Hid; decide, rfl, rfl, rfl, by intro x hx; simp at hx, by simp [Hid, val], by simpa [Hid] using HB.out, World.grownBy.refl _ _⟩
  case round =>
    obtain ⟨i, cr, seg, hi, hcr, rfl, rfl, hsl, hsg, hval, hblk, hgr⟩ := hrel
    by_cases hlt : i < k
    · have hiy : i < ys.length := by rw [← HK.out]; exact hlt
      have hil : o + i < l.length := by have := HO.out; omega
      obtain ⟨y, hye⟩ : ∃ y, y = ys[i] := ⟨_, rfl⟩
      obtain ⟨s, hse⟩ : ∃ s, s = l[o + i] := ⟨_, rfl⟩
      obtain ⟨ad, rfl, hab, hcy⟩ := (HR.out.grown hgr.out hB).at_ hiy
      have hsL : l[o + i]? = some s := by rw [hse]; exact List.getElem?_eq_getElem hil
      have hcs : wr.cell? ⟨g, o + i, none⟩ = some (U32 s) := hblk.out.cell (by rw [get_mid (by rw [List.length_take]; omega) hsl.out, hsL])
      have hfz := hblk.out.frozen (o + i)
      rw [← hye] at hcy
      have hyW : y < W32 := by rw [hye]; exact HY.out _ (List.getElem_mem _)
      have hsW : s < W32 := by rw [hse]; exact HL.out _ (List.getElem_mem _)
      have R := hide (addmul_wrap hyW HF.out hsW hcr.out)
      have Rq := hide (addmul_hi hyW HF.out hsW hcr.out)
      have Rv := hide (addmul_math (W := W32) hval.out rfl (lohi (cr + (y * f + s))))
      have Rm := hide (set_mid (seg := seg) (v := (cr + (y * f + s)) % W32) (show (l.take o).length = o by rw [List.length_take]; omega) hsl.out hil)
      have RL := hide (val_take_succ W32 (L := l.drop o) (i := i) (x := s) (by rw [List.getElem?_drop]; exact hsL))
      have RY := hide (val_take_succ W32 (L := ys) (i := i) (x := y) (by rw [hye]; exact List.getElem?_eq_getElem hiy))
      unfold U32 at hcs hcy
      clear hye hse hiy hil hyW hsW hsL
      go_wp2
      go_roundw
      case rel =>
        refine ⟨i + 1, (cr + (y * f + s)) / W32, seg ++ [(cr + (y * f + s)) % W32], by omega, Rq, by go_num, by rw [R.out]; rfl, by unfold Hid; simp [hsl.out], good_snoc hsg.out (lo_lt _), ?_, ?_, ?_⟩
        · unfold Hid
          rw [val_snoc, hsl.out, Nat.pow_succ, RL.out, RY.out]
          exact Rv.out
        · have hb := hblk.out.set_ (o + i) ((cr + (y * f + s)) % W32)
          rw [Rm.out] at hb
          rw [R.out]
          exact hb
        · exact grown_set hgr.out _ _
      case measure => simp [intOf]; omega
    · obtain rfl : i = k := by omega
      have hcw : cr ≤ 4294967295 := by have := hcr.out; rw [W32_eq] at this; omega
      go_wp2
      go_ret
      refine ⟨seg, cr, rfl, hsl.out, hsg.out, hcr.out, ?_, hblk.out, hgr.out⟩
      have := hval.out
      rwa [List.take_of_length_le (show ys.length ≤ i by rw [HK.out]; exact Nat.le_refl _)] at this
end Go.Proofs.YtmiklffjffdkgaaGreatDoor
end

section
/- appendGroup. Conditions: at most 1000000 words. -/
open Go.RowKit
set_option maxRecDepth 100000
namespace Go.Proofs.YtmiklffjffdkgaaGreatDoor
theorem set_at {seg L : List Nat} {i v : Nat} (h : seg.length = i) (hi : i < L.length) : (seg ++ L.drop i).set i v = (seg ++ [v]) ++ L.drop (i + 1) := by
  rw [List.set_append, if_neg (by omega), h, Nat.sub_self, List.drop_eq_getElem_cons hi, List.set_cons_zero]; simp
theorem get_at {seg L : List Nat} {i : Nat} (h : seg.length = i) : (seg ++ L.drop i)[i]? = L[i]? := by
  rw [List.getElem?_append_right (by omega), h, Nat.sub_self, List.getElem?_drop]; rfl
/-- Words of the value's own length that tell enough are its digits. -/
theorem digs_of_big {b : Nat} (hb : 2 ≤ b) (l : List Nat) (h : ∀ x ∈ l, x < b) (hv : 0 < l.length → b ^ (l.length - 1) ≤ val b l) : digs b (val b l) = l := by
  have h1 := digs_take hb l h
  have h2 := digs_len_le hb l h
  have h3 : l.length ≤ (digs b (val b l)).length := by
    rcases Nat.eq_zero_or_pos l.length with h0 | h0
    · omega
    · have h4 := hv h0
      have h5 := lt_pow_digs hb (val b l)
      rcases Nat.lt_or_ge (digs b (val b l)).length l.length with h6 | h6
      · have : b ^ (digs b (val b l)).length ≤ b ^ (l.length - 1) := Nat.pow_le_pow_right (by omega) (by omega)
        omega
      · exact h6
  rw [← h1, List.take_of_length_le h3]
/-- A slice of the call's own that reads as ws, with room perhaps. -/
def OwnF (f : Nat → Value) (t : TypeId) (w : World) (base g cap : Nat) (ws : List Nat) : Prop := w.ownsRow base t 1 (.slice (some ⟨g, 0, none⟩) ws.length cap) ws.length (ws.map f)
section
variable {f : Nat → Value} {t : TypeId} {w : World} {base g cap : Nat} {ws : List Nat}
theorem OwnF.cell (h : OwnF f t w base g cap ws) {i x : Nat} (hx : ws[i]? = some x) : w.cell? ⟨g, i, none⟩ = some (f x) := by
  have hi : i < ws.length := by
    rcases Nat.lt_or_ge i ws.length with h1 | h1
    · exact h1
    · rw [List.getElem?_eq_none h1] at hx; cases hx
  rw [World.ownsRow.cellAt h i (by omega), List.getElem?_map, hx]; rfl
theorem OwnF.set_ (h : OwnF f t w base g cap ws) (i v : Nat) : OwnF f t (w.setCell ⟨g, i, none⟩ (f v)) base g cap (ws.set i v) := by
  have := (World.ownsRow.stored h i (f v)).1
  unfold OwnF
  rw [List.length_set, List.map_set]
  exact this
theorem OwnF.ge (h : OwnF f t w base g cap ws) : base ≤ g ∧ g < w.heap.size := h.lt g rfl
theorem OwnF.frozen (h : OwnF f t w base g cap ws) (i : Nat) : w.frozen? ⟨g, i, none⟩ = false := World.ownsRow.frozenAt h i
theorem OwnF.drewN (h : OwnF f t w base g cap ws) (n : Nat) : OwnF f t (w.drewN n) base g cap ws := h
theorem OwnF.drew (h : OwnF f t w base g cap ws) : OwnF f t w.drew base g cap ws := h
end
def OwnG (w : World) (base g cap : Nat) (ws : List Nat) : Prop := OwnF U32 92 w base g cap ws
theorem OwnG.cell {w : World} {base g cap : Nat} {ws : List Nat} (h : OwnG w base g cap ws) {i x : Nat} (hx : ws[i]? = some x) : w.cell? ⟨g, i, none⟩ = some (.int .u32 (x : Int)) := OwnF.cell h hx
theorem OwnG.set_ {w : World} {base g cap : Nat} {ws : List Nat} (h : OwnG w base g cap ws) (i v : Nat) : OwnG (w.setCell ⟨g, i, none⟩ (.int .u32 (v : Int))) base g cap (ws.set i v) := OwnF.set_ h i v
theorem OwnG.ge {w : World} {base g cap : Nat} {ws : List Nat} (h : OwnG w base g cap ws) : base ≤ g ∧ g < w.heap.size := OwnF.ge h
def AGPost (w : World) (base M : Nat) (e : Ending) (w' : World) : Prop :=
  ∃ g' cap', e = .returned (.slice (some ⟨g', 0, none⟩) (dl M) cap') ∧ Hid (OwnG w' base g' cap' (digs W32 M)) ∧ Hid (Below base w w')
theorem OwnG.can {w : World} {base g cap m : Nat} (h : OwnG w base g cap (digs W32 m)) {p : Addr} (hp : g ≠ p.block) (u : Value) : Can (w.setCell p u) (w.setCell p u).heap.size (some ⟨g, 0, none⟩) cap m := by
  refine ⟨?_, fun _ => ⟨_, rfl, by have := h.ge.2; simpa [World.setCell] using this, fun j x hx => ?_⟩⟩
  · rcases h.2 with ⟨h', _⟩ | ⟨g', cap', cur, h', _, _, hn, _⟩
    · cases h'
    · simp only [Value.slice.injEq, Option.some.injEq, Addr.mk.injEq, and_true, true_and] at h'
      obtain ⟨_, rfl⟩ := h'
      exact hn
  · rw [World.cell?_setCell_other w p _ u (by intro e; rw [e, block_add] at hp; exact hp rfl)]
    exact World.ownsRow.cells h rfl j _ (by rw [List.getElem?_map, hx]; rfl)
theorem ag_math {P V c vt group q r x W : Nat} (h : V + P * c = vt * 1000000000 + group) (hq : r + W * q = c + x * 1000000000) : V + P * r + P * W * q = (vt + P * x) * 1000000000 + group := by
  have e1 : P * r + P * W * q = P * c + P * (x * 1000000000) := by rw [Nat.mul_assoc, ← Nat.mul_add, hq, Nat.mul_add]
  rw [Nat.add_mul, Nat.mul_assoc P x]; omega
end Go.Proofs.YtmiklffjffdkgaaGreatDoor
end

section
/- The document's own numbers, four digits each: trim, at, Cmp, Small. Conditions: at most 1000000 of them. -/
open Go.RowKit
set_option maxRecDepth 100000
namespace Go.Proofs.YtmiklffjffdkgaaGreatDoor
def D4 : Nat := 10000
theorem D4_eq : D4 = 10000 := rfl
def dq (m : Nat) : Nat := (digs D4 m).length
def Good4 (ws : List Nat) : Prop := ∀ x ∈ ws, x < D4
def RN (w : World) (B : Nat) (A : Option Addr) (c m : Nat) : Prop := dq m ≤ c ∧ Rd I64 w B A (digs D4 m)
section
variable {w w' : World} {B B' : Nat} {A : Option Addr} {c m : Nat}
theorem RN.below (h : RN w B A c m) (hb : Below B w w') : RN w' B A c m := ⟨h.1, h.2.below hb⟩
theorem RN.more (h : RN w B A c m) (hb : B ≤ B') : RN w B' A c m := ⟨h.1, h.2.more hb⟩
theorem RN.drewN (h : RN w B A c m) (k : Nat) : RN (w.drewN k) B A c m := h
end
def RefPost (w : World) (m : Nat) (e : Ending) (w' : World) : Prop := ∃ A c, e = .returned (.slice A (dq m) c) ∧ Hid (RN w' w'.heap.size A c m) ∧ Hid (Below w.heap.size w w')
theorem good4_digs (m : Nat) : Good4 (digs D4 m) := digs_lt (by decide) m
theorem val_digs4 (m : Nat) : val D4 (digs D4 m) = m := val_digs (by decide) m
def trimmed4 (ws : List Nat) : Nat := dq (val D4 ws)
theorem trimmed4_of {ws : List Nat} {k : Nat} (h : Good4 ws) (hk : k ≤ ws.length) (hz : ∀ j : Nat, k ≤ j → ws[j]?.getD 0 = 0) (hl : 0 < k → ws[k - 1]?.getD 0 ≠ 0) : trimmed4 ws = k := by
  unfold trimmed4 dq
  rw [← trim_eq (by decide) ws k h hk hz hl, List.length_take, Nat.min_eq_left hk]
set_option maxHeartbeats 400000 in
theorem rtrim_any (A : Option Addr) (ws : List Nat) (c : Nat) (w : World) (B : Nat) (h : Rd I64 w B A ws) (hw : Good4 ws) (hl : ws.length ≤ 1000000) (hc : ws.length ≤ c) :
    Calls Tryz.prog 83 #[.slice A ws.length c] w fun e w' => e = .returned (.slice A (trimmed4 ws) c) ∧ w = w' := by
  obtain ⟨n, hn⟩ : ∃ n, n = ws.length := ⟨_, rfl⟩
  have hl' : n ≤ 1000000 := by omega
  have hc' : n ≤ c := by omega
  rw [← hn]
  have HN := hide hn; have HW := hide hw; have HR := hide h
  clear hw hn hl hc h
  go_enter Tryz.func83, Tryz.ntmps83
  go_wp2
  go_loop [0] (fun l => ∃ k : Nat, k ≤ n ∧ Hid (∀ j : Nat, k ≤ j → ws[j]?.getD 0 = 0) ∧ l = .slice A k c) lenOf
  case atStart => exact ⟨n, Nat.le_refl _, fun j hj => by rw [List.getElem?_eq_none (by have := HN.out; omega)]; rfl, rfl⟩
  case round =>
    obtain ⟨k, hk, hz, rfl⟩ := hrel
    by_cases h0 : k = 0
    · subst h0
      go_wp2
      go_ret
      exact ⟨slice_ret (trimmed4_of HW.out (by omega) hz.out (by omega)).symm, rfl⟩
    · obtain ⟨m, rfl⟩ : ∃ m, k = m + 1 := ⟨k - 1, by omega⟩
      have hm : m < ws.length := by have := HN.out; omega
      obtain ⟨ad, rfl, hb, hcell⟩ := HR.out.at_ hm
      have hx : ws[m]?.getD 0 = ws[m] := by rw [List.getElem?_eq_getElem hm]; rfl
      obtain ⟨x, hxe⟩ : ∃ x, x = ws[m] := ⟨_, rfl⟩
      rw [← hxe] at hcell hx
      unfold I64 at hcell
      have HX := hide hx
      clear hx hxe hm
      by_cases hx0 : x = 0
      · have hx1 : ((x : Int) == 0) = true := by subst hx0; rfl
        have HX0 := hide hx0
        clear hx0
        go_wp2
        go_round
        case rel => exact ⟨m, by omega, fun j hj => by rcases Nat.eq_or_lt_of_le hj with rfl | hj; (· rw [HX.out, HX0.out]); (· exact hz.out j hj), by first | rfl | simp⟩
        case measure => simp [lenOf]
      · have hx1 : ((x : Int) == 0) = false := by simp; omega
        have HX0 := hide hx0
        clear hx0
        go_wp2
        go_ret
        exact ⟨slice_ret (trimmed4_of HW.out (by have := HN.out; omega) hz.out (fun _ => by rw [Nat.add_sub_cancel, HX.out]; exact HX0.out)).symm, rfl⟩
theorem rdigs_take (ws : List Nat) (h : Good4 ws) : ws.take (dq (val D4 ws)) = digs D4 (val D4 ws) := digs_take (by decide) ws h
/-- trim over a row of the call's own. -/
theorem rtrim_post {A : Option Addr} {ws : List Nat} {n c v : Nat} {w : World} (hn : n = ws.length) (hv : val D4 ws = v) (h : Rd I64 w w.heap.size A ws) (hw : Good4 ws) (hl : n ≤ 1000000) (hc : n ≤ c) :
    Calls Tryz.prog 83 #[.slice A n c] w fun e w' => e = .returned (.slice A (dq v) c) ∧ w = w' := by
  subst hn; subst hv
  exact rtrim_any A ws c w _ h hw hl hc
theorem rn_of {A : Option Addr} {ws : List Nat} {n c v : Nat} {w : World} {B : Nat} (hn : n = ws.length) (hv : val D4 ws = v) (h : Rd I64 w B A ws) (hw : Good4 ws) (hc : n ≤ c) : RN w B A c v := by
  subst hn; subst hv
  have hle : dq (val D4 ws) ≤ ws.length := digs_len_le (by decide) ws hw
  refine ⟨by omega, ?_⟩
  have := h.take (dq (val D4 ws))
  rwa [rdigs_take ws hw] at this
set_option maxHeartbeats 400000 in
theorem at_any {A : Option Addr} {ws : List Nat} {n c i : Nat} {w : World} {B : Nat} (hn : n = ws.length) (h : Rd I64 w B A ws) :
    Calls Tryz.prog 86 #[.slice A n c, .int .i64 (i : Int)] w fun e w' => e = .returned (.int .i64 ((ws[i]?.getD 0 : Nat) : Int)) ∧ w = w' := by
  by_cases hlt : i < n
  · have hi2 : i < ws.length := by omega
    obtain ⟨ad, rfl, hb, hc⟩ := h.at_ hi2
    obtain ⟨x, hx⟩ : ∃ x, x = ws[i] := ⟨_, rfl⟩
    have HX : Hid (ws[i]?.getD 0 = x) := by unfold Hid; rw [hx, List.getElem?_eq_getElem hi2]; rfl
    rw [← hx] at hc
    unfold I64 at hc
    clear hx hi2 h hn
    go_enter Tryz.func86, Tryz.ntmps86
    go_wp2
    go_ret
    exact ⟨by rw [HX.out]; rfl, rfl⟩
  · have HX : Hid (ws[i]?.getD 0 = 0) := by unfold Hid; rw [List.getElem?_eq_none (by omega)]; rfl
    clear h hn
    go_enter Tryz.func86, Tryz.ntmps86
    go_wp2
    go_ret
    exact ⟨by rw [HX.out]; rfl, rfl⟩
theorem cmpI_len4 {m n : Nat} (h : dq m ≠ dq n) : cmpI (dq m) (dq n) = cmpI m n := by
  rcases Nat.lt_or_ge (dq m) (dq n) with h1 | h1
  · rw [cmpI_lt h1, cmpI_lt (digs_len_lt (b := D4) (by decide) h1)]
  · rw [cmpI_gt (by omega), cmpI_gt (digs_len_lt (b := D4) (by decide) (show dq n < dq m by omega))]
theorem cmpI_at4 {m n i : Nat} (hlen : dq m = dq n) (hi : i < dq m) (heq : (digs D4 m).drop (i + 1) = (digs D4 n).drop (i + 1)) {x y : Nat} (hx : (digs D4 m)[i]? = some x) (hy : (digs D4 n)[i]? = some y) (hne : x ≠ y) : cmpI x y = cmpI m n := by
  have key : ∀ {m n x y : Nat}, dq m = dq n → i < dq m → (digs D4 m).drop (i + 1) = (digs D4 n).drop (i + 1) → (digs D4 m)[i]? = some x → (digs D4 n)[i]? = some y → x < y → m < n := by
    intro m n x y hlen hi heq hx hy hlt
    have := val_cmp (b := D4) (digs D4 m) (digs D4 n) i (digs_lt (by decide) m) hlen hi heq (by rw [hx, hy]; exact hlt)
    rwa [val_digs (by decide), val_digs (by decide)] at this
  rcases Nat.lt_or_ge x y with h | h
  · rw [cmpI_lt h, cmpI_lt (key hlen hi heq hx hy h)]
  · rw [cmpI_gt (by omega), cmpI_gt (key hlen.symm (by omega) heq.symm hy hx (by omega))]
set_option maxHeartbeats 1000000 in
theorem rCmp_any {A A' : Option Addr} {m n c c' : Nat} {w : World} {B : Nat} (h : RN w B A c m) (h' : RN w B A' c' n) (hl : dq m ≤ 1000000) (hl' : dq n ≤ 1000000) :
    Calls Tryz.prog 77 #[.slice A (dq m) c, .slice A' (dq n) c'] w fun e w' => e = .returned (.int .i64 (cmpI m n)) ∧ ∃ q, w' = w.drewN q := by
  obtain ⟨k, hk⟩ : ∃ k, k = dq m := ⟨_, rfl⟩
  obtain ⟨k', hk'⟩ : ∃ k, k = dq n := ⟨_, rfl⟩
  have HR := hide h.2; have HR' := hide h'.2
  rw [← hk] at hl ⊢
  rw [← hk'] at hl' ⊢
  have HK := hide hk; have HK' := hide hk'
  clear hk hk' h h'
  by_cases hlen : k = k'
  · subst hlen
    go_enter Tryz.func77, Tryz.ntmps77
    go_wp2
    go_loopw [5] (fun i wr => ∃ j q : Nat, j ≤ k ∧ Hid ((digs D4 m).drop j = (digs D4 n).drop j) ∧ i = .int .i64 ((j : Int) - 1) ∧ Hid (wr = w.drewN q)) (fun i _ => (intOf i + 1).toNat)
    case atStart => exact ⟨k, 0, Nat.le_refl _, by unfold Hid; rw [List.drop_of_length_le (Nat.le_of_eq HK.out.symm), List.drop_of_length_le (Nat.le_of_eq HK'.out.symm)], rfl, rfl⟩
    case round =>
      obtain ⟨j, q, hj, hd, rfl, HQ⟩ := hrel
      by_cases h0 : j = 0
      · subst h0
        go_wp2
        go_ret
        exact ⟨int_ret (cmpI_eq (digs_inj (b := D4) (by decide) hd.out)).symm, q, HQ.out⟩
      · obtain ⟨i, rfl⟩ : ∃ i, j = i + 1 := ⟨j - 1, by omega⟩
        have hi : i < (digs D4 m).length := Nat.lt_of_lt_of_eq (by omega) HK.out
        have hi' : i < (digs D4 n).length := Nat.lt_of_lt_of_eq (by omega) HK'.out
        obtain ⟨ad, rfl, hb, hcell⟩ := HR.out.at_ hi
        obtain ⟨ad', rfl, hb', hcell'⟩ := HR'.out.at_ hi'
        obtain ⟨x, hx⟩ : ∃ x, x = (digs D4 m)[i] := ⟨_, rfl⟩
        obtain ⟨y, hy⟩ : ∃ x, x = (digs D4 n)[i] := ⟨_, rfl⟩
        rw [← hx] at hcell
        rw [← hy] at hcell'
        have HX : Hid ((digs D4 m)[i]? = some x) := by unfold Hid; rw [hx, List.getElem?_eq_getElem hi]
        have HY : Hid ((digs D4 n)[i]? = some y) := by unfold Hid; rw [hy, List.getElem?_eq_getElem hi']
        unfold I64 at hcell hcell'
        replace hcell : wr.cell? (ad.add i) = some (.int .i64 x) := by rw [HQ.out]; exact hcell
        replace hcell' : wr.cell? (ad'.add i) = some (.int .i64 y) := by rw [HQ.out]; exact hcell'
        have hli : i < dq m := hi
        have HLI := hide hli
        have hdrop : x = y → (digs D4 m).drop i = (digs D4 n).drop i := fun e => by
          rw [List.drop_eq_getElem_cons hi, List.drop_eq_getElem_cons hi', ← hx, ← hy, e, hd.out]
        have HD := hide hdrop
        clear hx hy hi hi' hli hdrop
        rcases Nat.lt_trichotomy x y with hxy | hxy | hxy
        · go_wp2_with fail
          go_quiet (fail)
          go_wp2
          go_ret
          exact ⟨int_ret ((cmpI_lt hxy).symm.trans (cmpI_at4 (by rw [← HK.out]; exact HK'.out) HLI.out hd.out HX.out HY.out (by omega))), drew_end HQ⟩
        · subst hxy
          go_wp2_with fail
          go_quiet (fail)
          rename_i nq
          obtain ⟨W2, hW2⟩ : ∃ W2, W2 = wr.drewN nq := ⟨_, rfl⟩
          rw [← hW2]
          have HC := drew_cell hW2 hcell
          have HC' := drew_cell hW2 hcell'
          have HW2 := drew_hid hW2 HQ
          clear hW2 hcell hcell' HQ
          go_wp2_with fail
          go_quiet (fail)
          go_wp2
          go_roundw
          case rel => exact ⟨i, _, by omega, HD.out (by first | rfl | trivial), rfl, drew_more HW2⟩
          case measure => simp [intOf]
        · go_wp2_with fail
          go_quiet (fail)
          rename_i nq
          obtain ⟨W2, hW2⟩ : ∃ W2, W2 = wr.drewN nq := ⟨_, rfl⟩
          rw [← hW2]
          have HC := drew_cell hW2 hcell
          have HC' := drew_cell hW2 hcell'
          have HW2 := drew_hid hW2 HQ
          clear hW2 hcell hcell' HQ
          go_wp2_with fail
          go_quiet (fail)
          go_wp2
          go_ret
          exact ⟨int_ret ((cmpI_gt hxy).symm.trans (cmpI_at4 (by rw [← HK.out]; exact HK'.out) HLI.out hd.out HX.out HY.out (by omega))), drew_end HW2⟩
  · rcases Nat.lt_or_ge k k' with hlt | hge
    · have H1 : Hid (cmpI m n = -1) := by unfold Hid; rw [← cmpI_len4 (by rw [← HK.out, ← HK'.out]; exact hlen), ← HK.out, ← HK'.out, cmpI_lt hlt]
      go_enter Tryz.func77, Tryz.ntmps77
      go_wp2
      go_ret
      exact ⟨int_ret H1.out.symm, 0, rfl⟩
    · have H1 : Hid (cmpI m n = 1) := by unfold Hid; rw [← cmpI_len4 (by rw [← HK.out, ← HK'.out]; exact hlen), ← HK.out, ← HK'.out, cmpI_gt (by omega)]
      have hge2 : ¬ k < k' := by omega
      go_enter Tryz.func77, Tryz.ntmps77
      go_wp2
      go_ret
      exact ⟨int_ret H1.out.symm, 0, rfl⟩
end Go.Proofs.YtmiklffjffdkgaaGreatDoor
end

section
/- The document's own numbers: Small, Add. Conditions: at most 100000 fours of digits. -/
open Go.RowKit
set_option maxRecDepth 100000
namespace Go.Proofs.YtmiklffjffdkgaaGreatDoor
theorem row_rd {f : Nat → Value} {t : TypeId} {w : World} {base : Nat} {v : Value} {dd : List Nat} (h : w.ownsRow base t 1 v dd.length (dd.map f)) : ∃ A c, v = .slice A dd.length c ∧ dd.length ≤ c ∧ Rd f w w.heap.size A dd := by
  have h' := h
  rcases h.2 with ⟨rfl, h0⟩ | ⟨g, cap, cur, rfl, _, _, hn, _⟩
  · have := List.eq_nil_of_length_eq_zero h0
    subst this
    exact ⟨none, 0, rfl, Nat.le_refl _, Rd.nil⟩
  · exact ⟨_, cap, rfl, hn, fun _ => ⟨_, rfl, (h'.lt g rfl).2, fun j x hx => World.ownsRow.cells h' rfl j _ (by rw [List.getElem?_map, hx]; rfl)⟩⟩
theorem app_below {w wr w1 : World} {base n : Nat} {t : TypeId} {dv : Value} {xs : List Value} {o : Obj} (hown : wr.ownsRow base t 1 dv n xs) (hbel : Below w.heap.size w wr) (hg : w.heap.size ≤ base) (hgrow : (wr.alloc o).grownBy w1 dv.ownBlock) : Below w.heap.size w w1 :=
  (hbel.alloc hbel.size _).grown hgrow (by have := hbel.size; simp; omega) (fun k hk => by have := (hown.lt k hk).1; omega)
theorem dq_u64 {n : Nat} (h : n < 100000000000000000000) : dq n ≤ 5 := by
  rcases Nat.eq_zero_or_pos n with rfl | h0
  · unfold dq; rw [digs_zero]; simp
  · have h1 := pow_le_of_digs (b := D4) (by decide) h0
    have h2 : D4 ^ (dq n - 1) < D4 ^ 5 := Nat.lt_of_le_of_lt h1 (by rw [D4_eq]; omega)
    have h3 := (Nat.pow_lt_pow_iff_right (a := D4) (by decide)).1 h2
    omega
set_option maxHeartbeats 1000000 in
theorem Small_any {n : Nat} {w : World} (hn : n < 18446744073709551616) : Calls Tryz.prog 41 #[.int .u64 (n : Int)] w (RefPost w n) := by
  have HQ : Hid (dq n ≤ 5) := dq_u64 (by omega)
  obtain ⟨i0, hi0, hz0, hz1, hz2⟩ := info_parts Tryz.infoInt
  have I0 := hide hi0
  have Z0 := hide hz0
  have Z1 := hide hz1
  have Z2 := hide hz2
  have HN := hide hn
  clear hi0 hz0 hz1 hz2 hn
  go_enter Tryz.func41, Tryz.ntmps41
  go_wp2
  go_loopw [0, 3] (fun nv dv wr => ∃ (v : Nat) (dd : List Nat), nv = .int .u64 (v : Int) ∧ Hid (v < 18446744073709551616) ∧ Hid (dd ++ digs D4 v = digs D4 n) ∧ Hid (wr.ownsRow w.heap.size 3 1 dv dd.length (dd.map I64)) ∧ Hid (Below w.heap.size w wr))
    (fun nv _ _ => (intOf nv).toNat)
  case atStart => exact ⟨n, [], rfl, HN, rfl, World.ownsRow_nil _ _ _ _, Below.refl _ _⟩
  case round =>
    obtain ⟨v, dd, rfl, hvn, hdd, hown, hbel⟩ := hrel
    by_cases h0 : v = 0
    · subst h0
      have HE : Hid (dd = digs D4 n) := by have := hdd.out; rw [digs_zero, List.append_nil] at this; exact this
      go_wp2
      go_ret
      obtain ⟨A, c, rfl, hc, hr⟩ := row_rd hown.out
      rw [HE.out] at hr hc ⊢
      exact ⟨A, c, rfl, ⟨hc, hr⟩, hbel⟩
    · have hv : 0 < v := by omega
      have HD : Hid ((dd ++ [v % 10000]) ++ digs D4 (v / 10000) = digs D4 n) := by
        have := hdd.out
        rw [digs_pos (by decide) hv] at this
        unfold Hid
        rw [← this, List.append_assoc]; rfl
      have hlen : dd.length ≤ 5 := by
        have := congrArg List.length hdd.out
        rw [List.length_append] at this
        have h5 : (digs D4 n).length ≤ 5 := HQ.out
        omega
      have H63 : Hid (dd.length + 1 ≤ maxLen) := by simp only [maxLen, Hid]; omega
      have HB : Hid (w.heap.size ≤ (wr.alloc (.cells #[.int .i64 ((v : Int) % 10000)] 3)).heap.size) := by have := hbel.out.size; simp [Hid]; omega
      have HE : Hid (IntKind.u64.wrap ((v : Int) / 10000) = ((v / 10000 : Nat) : Int)) := by
        have h1 := hvn.out
        unfold Hid
        rw [show ((v : Int) / 10000) = ((v / 10000 : Nat) : Int) from rfl, u64_nat (by omega)]
      clear h0
      go_wp2_with (first | (at_builtin; go_must (refine wpList_append_own _ rfl (.tmp 6) (.tmp 10) 34 rfl w.heap.size 3 i0 (.int .i64 0) 1 8 Tryz.underlying34 I0.out Z0.out Z1.out Z2.out rfl (by decide) _ _ _ rfl (hown.out.alloc _) ⟨wr.heap.size, 0, none⟩ 1 1 [.int .i64 ((v : Int) % 10000)] rfl rfl (cell_one_new _ _ _) (by intro u hu; simp at hu; subst hu; rfl) H63.out (by omega) HB.out ?_; intro v2 w3 hown' hgrow hnil)))
      go_roundw
      case rel => exact ⟨v / 10000, dd ++ [v % 10000], by rw [HE.out], by have := hvn.out; unfold Hid; omega, HD, by unfold Hid; rw [List.length_append, List.map_append]; exact hown', app_below hown.out hbel.out (Nat.le_refl _) hgrow⟩
      case measure => rw [HE.out]; simp only [intOf]; omega
theorem val_take_getD (b : Nat) (L : List Nat) (i : Nat) : val b (L.take (i + 1)) = val b (L.take i) + b ^ i * (L[i]?.getD 0) := by
  rcases Nat.lt_or_ge i L.length with h | h
  · rw [val_take_succ b (List.getElem?_eq_getElem h), List.getElem?_eq_getElem h]; rfl
  · rw [val_take_more b h, List.getElem?_eq_none h]; rfl
theorem getD_lt {L : List Nat} (h : Good4 L) (i : Nat) : L[i]?.getD 0 ≤ 9999 := by
  rcases Nat.lt_or_ge i L.length with h1 | h1
  · rw [List.getElem?_eq_getElem h1]
    have := h _ (List.getElem_mem h1)
    rw [D4_eq] at this
    show L[i] ≤ 9999; omega
  · rw [List.getElem?_eq_none h1]; exact Nat.zero_le _
theorem lohi4 (t : Nat) : t % D4 + D4 * (t / D4) = t := Nat.mod_add_div t D4
set_option maxHeartbeats 2000000 in
theorem rAdd_any {A A' : Option Addr} {m n c c' : Nat} {w : World} (h : RN w w.heap.size A c m) (h' : RN w w.heap.size A' c' n) (hl : dq m ≤ 100000) (hl' : dq n ≤ 100000) :
    Calls Tryz.prog 53 #[.slice A (dq m) c, .slice A' (dq n) c'] w (RefPost w (m + n)) := by
  have HX := hide h
  have HY := hide h'
  obtain ⟨i0, hi0, hz0, hz1, hz2⟩ := info_parts Tryz.infoInt
  have I0 := hide hi0
  have Z0 := hide hz0
  have Z1 := hide hz1
  have Z2 := hide hz2
  clear hi0 hz0 hz1 hz2 h h'
  go_enter Tryz.func53, Tryz.ntmps53
  go_wp2
  go_loopw [5, 6, 7] (fun dv cv iv wr => ∃ (i cr : Nat) (dd : List Nat), i ≤ dq m + dq n + 1 ∧ cr ≤ 1 ∧ Hid (dq m ≤ i ∧ dq n ≤ i ∧ i = dq m + dq n + 1 → cr = 0) ∧ Hid (dq m < i ∧ dq n < i → cr = 0) ∧ cv = .int .i64 (cr : Int) ∧ iv = .int .i64 (i : Int) ∧ Hid (dd.length = i) ∧ Hid (Good4 dd) ∧
      Hid (val D4 dd + D4 ^ i * cr = val D4 ((digs D4 m).take i) + val D4 ((digs D4 n).take i)) ∧ Hid (wr.ownsRow w.heap.size 3 1 dv dd.length (dd.map I64)) ∧ Hid (Below w.heap.size w wr))
    (fun _ _ iv _ => dq m + dq n + 2 - (intOf iv).toNat)
  case atStart => exact ⟨0, 0, [], by omega, by omega, fun _ => rfl, fun _ => rfl, rfl, rfl, rfl, by intro x hx; simp at hx, by simp [Hid, val], World.ownsRow_nil _ _ _ _, Below.refl _ _⟩
  case round =>
    obtain ⟨i, cr, dd, hi, hcr, hc1, hc2, rfl, rfl, hdl, hdg, hval, hown, hbel⟩ := hrel
    by_cases hgo : i < dq m ∨ i < dq n ∨ 0 < cr
    · obtain ⟨x, hx⟩ : ∃ x, x = (digs D4 m)[i]?.getD 0 := ⟨_, rfl⟩
      obtain ⟨y, hy⟩ : ∃ y, y = (digs D4 n)[i]?.getD 0 := ⟨_, rfl⟩
      have hx9 : x ≤ 9999 := by rw [hx]; exact getD_lt (good4_digs m) i
      have hy9 : y ≤ 9999 := by rw [hy]; exact getD_lt (good4_digs n) i
      have CX := hide (at_any (i := i) (c := c) (show dq m = (digs D4 m).length from rfl) (HX.out.below hbel.out).2)
      have CY := hide (at_any (i := i) (c := c') (show dq n = (digs D4 n).length from rfl) (HY.out.below hbel.out).2)
      have RX := hide (val_take_getD D4 (digs D4 m) i)
      have RY := hide (val_take_getD D4 (digs D4 n) i)
      rw [← hx] at CX RX
      rw [← hy] at CY RY
      have HX0 : Hid (dq m ≤ i → x = 0) := fun h => by rw [hx, List.getElem?_eq_none h]; rfl
      have HY0 : Hid (dq n ≤ i → y = 0) := fun h => by rw [hy, List.getElem?_eq_none h]; rfl
      have RM := hide (add_math (W := D4) hval.out rfl (lohi4 (cr + (x + y))))
      have hdl2 : dd.length ≤ 300000 := by rw [hdl.out]; omega
      have H63 : Hid (dd.length + 1 ≤ maxLen) := by simp only [maxLen, Hid]; omega
      have HB : Hid (∀ u : Value, w.heap.size ≤ (wr.alloc (.cells #[u] 3)).heap.size) := fun u => by have := hbel.out.size; simp; omega
      have hi2 : Hid (i ≤ dq m ∨ i ≤ dq n) := by
        unfold Hid
        rcases hgo with h | h | h
        · left; omega
        · right; omega
        · rcases Nat.lt_or_ge (dq m) i with h1 | h1
          · rcases Nat.lt_or_ge (dq n) i with h2 | h2
            · have := hc2.out ⟨h1, h2⟩; omega
            · right; exact h2
          · left; exact h1
      clear hx hy
      have hways : i < dq m ∨ (¬ i < dq m ∧ i < dq n) ∨ (¬ i < dq m ∧ ¬ i < dq n ∧ 0 < cr) := by omega
      clear hgo
      have FIN : Hid (∀ (v2 : Value) (w3 : World), w3.ownsRow w.heap.size 3 1 v2 (dd.length + 1) (dd.map I64 ++ [.int .i64 (((x : Int) + (y : Int) + (cr : Int)) % 10000)]) → Below w.heap.size w w3 →
          ∃ (cr' : Nat) (de : List Nat), i + 1 ≤ dq m + dq n + 1 ∧ cr' ≤ 1 ∧ Hid (dq m ≤ i + 1 ∧ dq n ≤ i + 1 ∧ i + 1 = dq m + dq n + 1 → cr' = 0) ∧ Hid (dq m < i + 1 ∧ dq n < i + 1 → cr' = 0) ∧ Value.int .i64 (((x : Int) + (y : Int) + (cr : Int)) / 10000) = .int .i64 (cr' : Int) ∧ Hid (de.length = i + 1) ∧ Hid (Good4 de) ∧
            Hid (val D4 de + D4 ^ (i + 1) * cr' = val D4 ((digs D4 m).take (i + 1)) + val D4 ((digs D4 n).take (i + 1))) ∧ Hid (w3.ownsRow w.heap.size 3 1 v2 de.length (de.map I64)) ∧ Hid (Below w.heap.size w w3)) := by
        intro v2 w3 ho hb
        have hz : dq m < i + 1 ∧ dq n < i + 1 → (cr + (x + y)) / D4 = 0 := fun h => by
          have h1 := HX0.out (by omega)
          have h2 := HY0.out (by omega)
          rw [D4_eq]; omega
        refine ⟨(cr + (x + y)) / D4, dd ++ [(cr + (x + y)) % D4], ?_, by rw [D4_eq]; omega, fun h => hz (by omega), hz, ?_, by unfold Hid; rw [List.length_append, hdl.out]; rfl, ?_, ?_, ?_, hb⟩
        · rcases hi2.out with h | h <;> omega
        · exact congrArg (Value.int .i64) (show _ = (((cr + (x + y)) / D4 : Nat) : Int) by rw [D4_eq]; omega)
        · intro z hz
          rcases List.mem_append.1 hz with hz | hz
          · exact hdg.out z hz
          · simp at hz; subst hz; exact Nat.mod_lt _ (by decide)
        · unfold Hid
          rw [val_snoc, hdl.out, Nat.pow_succ, RX.out, RY.out, RM.out, Nat.mul_add]; omega
        · unfold Hid
          rw [List.length_append, List.map_append]
          have e : (((x : Int) + (y : Int) + (cr : Int)) % 10000) = (((cr + (x + y)) % D4 : Nat) : Int) := by rw [D4_eq]; omega
          rw [e] at ho
          exact ho
      rcases hways with hw1 | ⟨hw1, hw2⟩ | ⟨hw1, hw2, hw3⟩
      all_goals
        go_wp2_with (first | (go_at_call 86; first | ((with_reducible refine CX.out.mono ?_); rintro e w' ⟨rfl, rfl⟩) | ((with_reducible refine CY.out.mono ?_); rintro e w' ⟨rfl, rfl⟩)) | (at_builtin; go_must (refine wpList_append_own _ rfl (.tmp 34) (.tmp 37) 34 rfl w.heap.size 3 i0 (.int .i64 0) 1 8 Tryz.underlying34 I0.out Z0.out Z1.out Z2.out rfl (by decide) _ _ _ rfl (hown.out.alloc _) ⟨wr.heap.size, 0, none⟩ 1 1 [.int .i64 (((x : Int) + (y : Int) + (cr : Int)) % 10000)] rfl rfl (cell_one_new _ _ _) (by intro u hu; simp at hu; subst hu; rfl) H63.out (by omega) (HB.out _) ?_; intro v2 w3 hown' hgrow hnil)))
        go_roundw
        case rel =>
          obtain ⟨cr', de, f1, f2, f3, f4, f5, f6, f7, f8, f9, f10⟩ := FIN.out v2 w3 hown' (app_below hown.out hbel.out (Nat.le_refl _) hgrow)
          exact ⟨i + 1, cr', de, f1, f2, f3, f4, f5, by go_num, f6, f7, f8, f9, f10⟩
        case measure => simp [intOf]; omega
    · have hw1 : ¬ i < dq m := by omega
      have hw2 : ¬ i < dq n := by omega
      obtain rfl : cr = 0 := by omega
      clear hgo
      have HV : Hid (val D4 dd = m + n) := by
        have h1 := hval.out
        rw [List.take_of_length_le (show (digs D4 m).length ≤ i by unfold dq at hw1; omega), List.take_of_length_le (show (digs D4 n).length ≤ i by unfold dq at hw2; omega), val_digs4, val_digs4, Nat.mul_zero] at h1
        exact h1
      obtain ⟨A2, c2, he, hc, hr⟩ := row_rd hown.out
      cases he
      have HR := hide hr
      have hdl2 : dd.length ≤ 300000 := by rw [hdl.out]; omega
      go_wp2_with (first | (go_at_call 83; go_must (refine (rtrim_post rfl HV.out HR.out hdg.out (by omega) hc).mono ?_); rintro e w2 ⟨rfl, rfl⟩))
      go_ret
      exact ⟨A2, c2, rfl, rn_of rfl HV.out HR.out hdg.out hc, hbel⟩
end Go.Proofs.YtmiklffjffdkgaaGreatDoor
end
