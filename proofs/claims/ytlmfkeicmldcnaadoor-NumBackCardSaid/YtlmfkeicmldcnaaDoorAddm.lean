/- addMultiple: words in place. Conditions: at most 100000 words. -/
import Derived.Test.YtlmfkeicmldcnaaDoorOwn
import Derived.Test.YtlmfkeicmldcnaaDoorMb
open Go.RowKit
set_option maxRecDepth 100000
namespace Go.Proofs.YtlmfkeicmldcnaaDoor
theorem grown_drewN {a w : World} {row : Option Nat} (h : a.grownBy w row) (n : Nat) : a.grownBy (w.drewN n) row := ⟨h.os, h.tape, h.output, h.size, h.block⟩
theorem grown_set {a w : World} {g : Nat} (h : a.grownBy w (some g)) (i : Nat) (u : Value) : a.grownBy (w.setCell ⟨g, i, none⟩ u) (some g) :=
  ⟨h.os, h.tape, h.output, by simpa [World.setCell] using h.size, fun k hk hne => (Below.heap_setCell w _ u k (by rintro rfl; exact hne rfl)).trans (h.block k hk hne)⟩
theorem grown_below {w w' : World} {g B : Nat} (h : w.grownBy w' (some g)) (hB : B ≤ g) (hg : g < w.heap.size) : Below B w w' :=
  ⟨h.os, h.tape, h.output, h.size, fun k hk => h.block k (by omega) (by intro e; injection e; omega)⟩
theorem Rd.grown {f : Nat → Value} {w w' : World} {B g : Nat} {A : Option Addr} {xs : List Nat} (h : Rd f w B A xs) (hg : w.grownBy w' (some g)) (hB : B ≤ g) : Rd f w' B A xs := fun hn => by
  obtain ⟨ad, e, hb, hc⟩ := h hn
  exact ⟨ad, e, hb, fun j u hu => hg.cell (hc j u hu) (by rw [block_add]; intro e; injection e; omega)⟩
theorem grown_trans {a b c : World} {row : Option Nat} (h : a.grownBy b row) (k : b.grownBy c row) : a.grownBy c row :=
  ⟨k.os.trans h.os, k.tape.trans h.tape, k.output.trans h.output, Nat.le_trans h.size k.size, fun i hi hne => (k.block i (Nat.lt_of_lt_of_le hi h.size) hne).trans (h.block i hi hne)⟩
/-- trim over words of the call's own. -/
theorem trim_own {w : World} {g n c v : Nat} {seg : List Nat} (h : Blk U32 30 w g seg) (hn : n = seg.length) (hg : Good32 seg) (hl : n ≤ 1000000) (hc : n ≤ c) (hv : val W32 seg = v) :
    Calls Tryd.prog 61 #[.slice (some ⟨g, 0, none⟩) n c] w fun e w' => e = .returned (.slice (some ⟨g, 0, none⟩) (dl v) c) ∧ w = w' := by
  subst hn; subst hv
  exact trim_any _ seg c w w.heap.size (h.rd0 h.lt) hg hl hc
/-- What the words of the call's own tell. -/
theorem can_own {w : World} {g n c v : Nat} {seg : List Nat} (h : Blk U32 30 w g seg) (hn : n = seg.length) (hg : Good32 seg) (hc : n ≤ c) (hv : val W32 seg = v) : Can w w.heap.size (some ⟨g, 0, none⟩) c v := by
  subst hn; subst hv
  have hle : dl (val W32 seg) ≤ seg.length := digs_len_le (by decide) seg hg
  refine ⟨by omega, ?_⟩
  have := (h.rd0 h.lt).take (dl (val W32 seg))
  rwa [show seg.take (dl (val W32 seg)) = digs W32 (val W32 seg) from digs_take (by decide) seg hg] at this
/-- What a call leaves that returns a number. -/
def NumPost (w : World) (v : Nat) (e : Ending) (w' : World) : Prop := ∃ A c, e = .returned (.agg #[.slice A (dl v) c]) ∧ Can w' w'.heap.size A c v ∧ Below w.heap.size w w'
theorem pre3 (w : World) (o1 o2 : Obj) (v : Value) (t : TypeId) (k : Nat) :
    Below w.heap.size w ((((w.alloc o1).alloc o2).alloc (.cells #[v] t)).drewN k) ∧ ((((w.alloc o1).alloc o2).alloc (.cells #[v] t)).drewN k).heap.size = w.heap.size + 3 ∧
    ((((w.alloc o1).alloc o2).alloc (.cells #[v] t)).drewN k).heap[w.heap.size + 2]? = some (.cells #[v] t (0, 0)) := by
  refine ⟨below_drewN ((((Below.refl _ _).alloc (Nat.le_refl _) _).alloc (by simp) _).alloc (by simp; omega) _) k, by simp, ?_⟩
  have := heap_alloc_new ((w.alloc o1).alloc o2) (.cells #[v] t)
  simpa using this
theorem after3 {w w1 : World} {o1 o2 : Obj} {v : Value} {t : TypeId} {k : Nat} (h : Below ((((w.alloc o1).alloc o2).alloc (.cells #[v] t)).drewN k).heap.size ((((w.alloc o1).alloc o2).alloc (.cells #[v] t)).drewN k) w1) :
    Below w.heap.size w w1 ∧ w1.heap[w.heap.size + 2]? = some (.cells #[v] t (0, 0)) ∧ w.heap.size + 3 ≤ w1.heap.size := by
  obtain ⟨p1, p2, p3⟩ := pre3 w o1 o2 v t k
  exact ⟨p1.trans (h.mono p1.size), (h.block _ (by omega)).trans p3, by have := h.size; omega⟩
theorem one_cell {w : World} {g : Nat} {v : Value} {t : TypeId} (h : w.heap[g]? = some (.cells #[v] t (0, 0))) : w.cell? ⟨g, 0, none⟩ = some v ∧ w.frozen? ⟨g, 0, none⟩ = false := by
  refine ⟨?_, ?_⟩
  · rw [cell_of_row w g 0 _ t (0, 0) h]; rfl
  · simp [World.frozen?, h]
def AddMulPost (w : World) (g o k f : Nat) (l ys : List Nat) (e : Ending) (w' : World) : Prop :=
  ∃ (seg : List Nat) (c : Nat), e = .returned (.int .u32 (c : Int)) ∧ Hid (seg.length = k) ∧ Hid (Good32 seg) ∧ Hid (c < W32) ∧ Hid (val W32 seg + W32 ^ k * c = val W32 ((l.drop o).take k) + f * val W32 ys) ∧
    Blk U32 30 w' g (l.take o ++ (seg ++ l.drop (o + k))) ∧ w.grownBy w' (some g)
set_option maxHeartbeats 1000000 in
theorem addMultiple_any {A : Option Addr} {g o k c c' f B : Nat} {l ys : List Nat} {w : World} (hb : Blk U32 30 w g l) (hr : Rd U32 w B A ys) (hB : B ≤ g) (hk : k = ys.length) (ho : o + k ≤ l.length)
    (hl : Good32 l) (hy : Good32 ys) (hf : f < W32) (hlim : l.length ≤ 1000000) :
    Calls Tryd.prog 74 #[.slice (some ⟨g, o, none⟩) k c, .slice A k c', .int .u32 (f : Int)] w (AddMulPost w g o k f l ys) := by
  have HB := hide hb; have HR := hide hr; have HK := hide hk; have HL := hide hl; have HY := hide hy; have HF := hide hf; have HO := hide ho
  have hkl : k ≤ 1000000 := by omega
  clear hb hr hk hl hy hf hlim ho
  go_enter Tryd.func74, Tryd.ntmps74
  go_wp2
  go_loopw [7, 12] (fun cv iv wr => ∃ i cr : Nat, ∃ seg : List Nat, i ≤ k ∧ Hid (cr < W32) ∧ iv = .int .i64 (i : Int) ∧ cv = .int .u64 (cr : Int) ∧ Hid (seg.length = i) ∧ Hid (Good32 seg) ∧
      Hid (val W32 seg + W32 ^ i * cr = val W32 ((l.drop o).take i) + f * val W32 (ys.take i)) ∧ Hid (Blk U32 30 wr g (l.take o ++ (seg ++ l.drop (o + i)))) ∧ Hid (w.grownBy wr (some g)))
    (fun _ iv _ => k - (intOf iv).toNat)
  case atStart => exact ⟨0, 0, [], Nat.zero_le _, by unfold Hid; decide, rfl, rfl, rfl, by intro x hx; simp at hx, by simp [Hid, val], by simpa [Hid] using HB.out, World.grownBy.refl _ _⟩
  case round =>
    obtain ⟨i, cr, seg, hi, hcr, rfl, rfl, hsl, hsg, hval, hblk, hgr⟩ := hrel
    by_cases hlt : i < k
    · have hiy : i < ys.length := by rw [← HK.out]; exact hlt
      have hil : o + i < l.length := by have := HO.out; omega
      obtain ⟨y, hye⟩ : ∃ y, y = ys[i] := ⟨_, rfl⟩
      obtain ⟨s, hse⟩ : ∃ s, s = l[o + i] := ⟨_, rfl⟩
      obtain ⟨ad, rfl, hab, hcy⟩ := (HR.out.grown hgr.out hB).at_ hiy
      have hsL : l[o + i]? = some s := by rw [hse]; exact List.getElem?_eq_getElem hil
      have hcs : wr.cell? ⟨g, o + i, none⟩ = some (U32 s) := hblk.out.cell (by rw [get_mid (by rw [List.length_take]; omega) hsl.out, hsL])
      have hfz := hblk.out.frozen (o + i)
      rw [← hye] at hcy
      have hyW : y < W32 := by rw [hye]; exact HY.out _ (List.getElem_mem _)
      have hsW : s < W32 := by rw [hse]; exact HL.out _ (List.getElem_mem _)
      have R := hide (addmul_wrap hyW HF.out hsW hcr.out)
      have Rq := hide (addmul_hi hyW HF.out hsW hcr.out)
      have Rv := hide (addmul_math (W := W32) hval.out rfl (lohi (cr + (y * f + s))))
      have Rm := hide (set_mid (seg := seg) (v := (cr + (y * f + s)) % W32) (show (l.take o).length = o by rw [List.length_take]; omega) hsl.out hil)
      have RL := hide (val_take_succ W32 (L := l.drop o) (i := i) (x := s) (by rw [List.getElem?_drop]; exact hsL))
      have RY := hide (val_take_succ W32 (L := ys) (i := i) (x := y) (by rw [hye]; exact List.getElem?_eq_getElem hiy))
      unfold U32 at hcs hcy
      clear hye hse hiy hil hyW hsW hsL
      go_wp2
      go_roundw
      case rel =>
        refine ⟨i + 1, (cr + (y * f + s)) / W32, seg ++ [(cr + (y * f + s)) % W32], by omega, Rq, by go_num, by rw [R.out]; rfl, by unfold Hid; simp [hsl.out], good_snoc hsg.out (lo_lt _), ?_, ?_, ?_⟩
        · unfold Hid
          rw [val_snoc, hsl.out, Nat.pow_succ, RL.out, RY.out]
          exact Rv.out
        · have hb := hblk.out.set_ (o + i) ((cr + (y * f + s)) % W32)
          rw [Rm.out] at hb
          rw [R.out]
          exact hb
        · exact grown_set hgr.out _ _
      case measure => simp [intOf]; omega
    · obtain rfl : i = k := by omega
      have hcw : cr ≤ 4294967295 := by have := hcr.out; rw [W32_eq] at this; omega
      go_wp2
      go_ret
      refine ⟨seg, cr, rfl, hsl.out, hsg.out, hcr.out, ?_, hblk.out, hgr.out⟩
      have := hval.out
      rwa [List.take_of_length_le (show ys.length ≤ i by rw [HK.out]; exact Nat.le_refl _)] at this
end Go.Proofs.YtlmfkeicmldcnaaDoor
