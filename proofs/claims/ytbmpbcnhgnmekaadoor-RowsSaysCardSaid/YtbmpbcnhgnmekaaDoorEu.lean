/- cubitref6.Blank of a text. Conditions: texts of at most 1000000 bytes. -/
import Derived.Test.YtbmpbcnhgnmekaaDoorEj
import Derived.Laws.IdiomStrings
open Go.RowKit
set_option maxRecDepth 100000
namespace Go.Proofs.YtbmpbcnhgnmekaaDoor
/-- Block p holds these bytes, none of them kept from writing. -/
structure BB (W : World) (p : Nat) (l : List UInt8) : Prop where
  cell : ∀ j (h : j < l.length), W.cell? ⟨p, j, none⟩ = some (.int .u8 (l[j].toNat : Int))
  free : ∀ j, j < l.length → W.frozen? ⟨p, j, none⟩ = false
theorem BB.set {W : World} {p : Nat} {l : List UInt8} {k : Nat} (h : BB W p l) (hk : k < l.length) (c : UInt8) : BB (W.setCell ⟨p, k, none⟩ (.int .u8 (c.toNat : Int))) p (l.set k c) := by
  refine ⟨fun j hj => ?_, fun j hj => ?_⟩
  · rw [List.length_set] at hj
    by_cases e : k = j
    · subst e
      rw [World.cell?_setCell_same W _ _ (h.cell k hk)]
      simp
    · rw [World.cell?_setCell_other W _ _ _ (fun x => e (by injection x))]
      rw [h.cell j hj]
      simp [List.getElem_set_ne e]
  · rw [List.length_set] at hj
    rw [World.frozen?_setCell]; exact h.free j hj
theorem bl_step {l : List UInt8} {k : Nat} (h : k < l.length) : blankL (l.take (k + 1)) ++ l.drop (k + 1) = (blankL (l.take k) ++ l.drop k).set k (bl l[k]) := by
  have e1 : (blankL (l.take k)).length = k := by unfold blankL; rw [List.length_map, List.length_take]; omega
  rw [List.set_append_right _ _ (by omega), e1, Nat.sub_self, List.drop_eq_getElem_cons h, List.set_cons_zero, List.take_succ_eq_append_getElem h]
  unfold blankL
  rw [List.map_append, List.append_assoc]; rfl
theorem bl_at {l : List UInt8} {k : Nat} (h : k < l.length) : ∀ hk, (blankL (l.take k) ++ l.drop k)[k]'hk = l[k] := fun hk => by
  have e1 : (blankL (l.take k)).length = k := by unfold blankL; rw [List.length_map, List.length_take]; omega
  rw [List.getElem_append_right (by omega)]
  simp [e1]
theorem bl_len {l : List UInt8} {k : Nat} (h : k ≤ l.length) : (blankL (l.take k) ++ l.drop k).length = l.length := by
  unfold blankL; rw [List.length_append, List.length_map, List.length_take, List.length_drop]; omega
theorem byte_eq' {c : UInt8} {n : Nat} (hn : n < 256) : c = UInt8.ofNat n ↔ c.toNat = n := by
  constructor
  · rintro rfl; simp; omega
  · intro h; apply UInt8.toNat_inj.1; rw [h]; simp; omega
theorem bytes_new (w : World) (s : ByteArray) : ∃ c W1, (convert 9 47 (.string s)).run Tryd.prog w = .ok (.slice (some ⟨w.heap.size, 0, none⟩) s.size c) W1 ∧ BB W1 w.heap.size s.data.toList ∧ Below w.heap.size w W1 := by
  have h := run_bytes_of_string (P := Tryd.prog) w 9 47 5 s Tryd.underlying9 Tryd.underlying47 Tryd.underlying5
  refine ⟨_, _, h, ⟨fun j hj => ?_, fun j hj => ?_⟩, (Below.refl _ _).drew.alloc (Nat.le_refl _) _⟩
  · have h1 := World.cell?_alloc_mark w.drew (bytesRow s (grownCap w s.size 0 5)) 5 ((bytesRow s (grownCap w s.size 0 5)).size, (bytesRow s (grownCap w s.size 0 5)).size + 1) j
    exact h1.trans (bytesRow_at s _ j (by simpa using hj))
  · have h1 := World.frozen?_alloc_mark w.drew (bytesRow s (grownCap w s.size 0 5)) 5 (bytesRow s (grownCap w s.size 0 5)).size ((bytesRow s (grownCap w s.size 0 5)).size + 1) j
    refine h1.trans ?_
    have h2 : j < (bytesRow s (grownCap w s.size 0 5)).size := by
      have h3 := bytesRow_at s (grownCap w s.size 0 5) j (by simpa using hj)
      exact (Array.getElem?_eq_some_iff.1 h3).1
    rw [decide_eq_false (by omega)]; rfl
set_option maxHeartbeats 4000000 in
theorem refblank_any {s t : ByteArray} (hs : s.size ≤ 1000000) (ht : blankB s = t) (w : World) : Calls Tryd.prog 14 #[.string s] w (StrR w t) := by
  obtain ⟨c, W1, hconv, hbb, hbl⟩ := bytes_new w s
  obtain ⟨l, hl⟩ : ∃ l, s.data.toList = l := ⟨_, rfl⟩
  obtain ⟨n, hn⟩ : ∃ n, s.size = n := ⟨_, rfl⟩
  have HLN : Hid (l.length = n) := by rw [← hl, ← hn, Lib.size_eq]; rfl
  obtain ⟨p, hp⟩ : ∃ p, w.heap.size = p := ⟨_, rfl⟩
  rw [hl, hp] at hbb
  rw [hn, hp] at hconv
  have HBB := ehide hbb
  have HBL := ehide hbl
  have HP := ehide hp
  have HT : Hid (t = ⟨(blankL l).toArray⟩) := by rw [← ht, ← hl]; rfl
  have hback : Hid (∀ V, BB V p (blankL l) → (convert 47 9 (.slice (some ⟨p, 0, none⟩) n c)).run Tryd.prog V = .ok (.string t) V) := fun V hV => by
    have h := run_convert_bytes_back (P := Tryd.prog) V 47 9 5 ⟨p, 0, none⟩ c (blankL l) Tryd.underlying47 Tryd.underlying5 Tryd.underlying9 (fun j hj => by
      rw [Addr.add_lit, Nat.zero_add]; exact hV.cell j hj)
    rw [show (blankL l).length = n by unfold blankL; rw [List.length_map]; exact HLN.out] at h
    rw [HT.out]; exact h
  have hn2 : n ≤ 1000000 := by omega
  clear hbb hbl hl hn ht hp hs
  go_enter Tryd.func14, Tryd.ntmps14
  go_wp2
  go_loopw [4] (fun iv wr => ∃ k : Nat, k ≤ n ∧ iv = .int .i64 (k : Int) ∧ Hid (BB wr p (blankL (l.take k) ++ l.drop k)) ∧ Hid (Below w.heap.size w wr)) (fun iv _ => n - (intOf iv).toNat)
  case atStart => exact ⟨0, Nat.zero_le _, rfl, HBB.out, HBL⟩
  case round =>
    obtain ⟨k, hk, rfl, HB, HW⟩ := hrel
    have w1' : IntKind.i64.wrap ((k : Int) + 1) = (k : Int) + 1 := IntWalk.i64_in _ (by omega)
    by_cases hlt : k < n
    · have hkl : k < l.length := by rw [HLN.out]; exact hlt
      have hlen := bl_len (l := l) (k := k) (by omega)
      have hc : wr.cell? ⟨p, k, none⟩ = some (.int .u8 (l[k].toNat : Int)) := by
        have h1 := HB.out.cell k (by omega)
        rwa [bl_at hkl] at h1
      have hfz : wr.frozen? ⟨p, k, none⟩ = false := HB.out.free k (by omega)
      have HS := ehide (bl_step hkl)
      have HST := ehide (HB.out.set (k := k) (by omega) 32)
      obtain ⟨x, hx⟩ : ∃ x, l[k] = x := ⟨_, rfl⟩
      rw [hx] at hc HS
      by_cases h95 : x = 95
      · have hc9 := (byte_eq' (n := 95) (by decide)).1 h95
        have d0 : ((x.toNat : Int) == 95) = true := by rw [hc9]; rfl
        have HE : Hid (BB (wr.setCell ⟨p, k, none⟩ (.int .u8 32)) p (blankL (l.take (k + 1)) ++ l.drop (k + 1))) := by
          rw [HS.out, show bl x = 32 by unfold bl; rw [if_pos h95]]; exact HST.out
        have HW2 : Hid (Below w.heap.size w (wr.setCell ⟨p, k, none⟩ (.int .u8 32))) := HW.out.setCell (by have := HP.out; simp; omega) _
        clear hc9 h95 hlen hx HST hkl
        go_wp2
        go_roundw
        case rel => exact ⟨k + 1, by omega, by go_num, HE, HW2⟩
        case measure => simp [intOf]; omega
      · have d0 : ((x.toNat : Int) == 95) = false := by
          rw [beq_eq_false_iff_ne]; intro e; exact h95 ((byte_eq' (n := 95) (by decide)).2 (by omega))
        have HE : Hid (BB wr p (blankL (l.take (k + 1)) ++ l.drop (k + 1))) := by
          rw [HS.out, show bl x = x by unfold bl; rw [if_neg h95], ← hx, ← bl_at hkl (by omega), List.set_getElem_self]; exact HB.out
        clear h95 hlen hx HST hkl
        go_wp2
        go_roundw
        case rel => exact ⟨k + 1, by omega, by go_num, HE, HW⟩
        case measure => simp [intOf]; omega
    · obtain rfl : k = n := by omega
      have hb2 := hback.out wr (by
        have h1 := HB.out
        rwa [List.take_of_length_le (by rw [HLN.out]; exact Nat.le_refl _), List.drop_of_length_le (by rw [HLN.out]; exact Nat.le_refl _), List.append_nil] at h1)
      go_wp2
      go_ret
      exact ⟨rfl, HW⟩
end Go.Proofs.YtbmpbcnhgnmekaaDoor
