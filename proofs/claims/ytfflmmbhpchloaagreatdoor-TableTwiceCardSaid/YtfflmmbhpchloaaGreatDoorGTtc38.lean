/- Each theorem here says its own conditions. -/
import Derived.Test.YtfflmmbhpchloaaGreatDoorGTtc37
import Derived.Test.YtfflmmbhpchloaaGreatDoorGTtc25
import Derived.Test.YtfflmmbhpchloaaGreatDoorGTtc22
import Derived.BigQuiet
import Derived.Test.YtfflmmbhpchloaaGreatDoorGTtc0
import Derived.Deep.Strs
import Derived.Deep.SlicePairs
import Derived.ChangeArms
import Derived.ChangeSame
set_option maxRecDepth 100000
set_option maxHeartbeats 16000000
section
open Go.RowKit
open Go.Proofs.YtfflmmbhpchloaaGreatDoor.V
namespace Go.Proofs.YtfflmmbhpchloaaGreatDoor
theorem plainT {w : World} {ad : Addr} {v : Value} (h : w.cell? ad = some v) : ∃ b o, ad = ⟨b, o, none⟩ := by
 obtain ⟨b, o, sp⟩ := ad
 cases sp with
 | none => exact ⟨b, o, rfl⟩
 | some k =>
   unfold World.cell? at h
   split at h
   ·simp at h
   ·cases h
section
variable {base p g y N : Nat} {W W' : World} {x : TPl} {T : Tb} {k : ByteArray} {r w : List ByteArray} {b0 o0 c n : Nat}
theorem tbad_base (hc : W.cell? ⟨b0, o0, none⟩ = some (.string baseK)) (hl : b0 < W.heap.size) (h0 : 0 < n) (h3 : n ≠ 3) : Calls Tryz.prog 50 #[.pointer (some ⟨g, 0, none⟩), .slice (some ⟨b0, o0, none⟩) n c] W (fun e w' => e = .returned (.int .i64 2) ∧ Bel W w') := by
 have CK : Hid (∀ W', Calls Tryz.prog 90 #[.string baseK] W' (RetB W' true)) := fun W' => by
  have h1 := tkind_h (s := baseK) W'
  rwa [show kindB baseK = true by decide +kernel] at h1
 have n0 : ((n : Int) == 0) = false := by rw [beq_eq_false_iff_ne]; omega
 have n3 : ((n : Int) == 3) = false := by rw [beq_eq_false_iff_ne]; omega
 have hlt : (0 : Int) < (n : Int) := by omega
 unfold baseK at hc CK
 clear h3
 go_enter Tryz.func50, Tryz.ntmps50
 go_wp2_with (first | (go_at_call 90; (with_reducible refine (CK.out _).mono ?_); rintro e w2 ⟨rfl, hb2⟩) | fail)
 go_ret
 exact ⟨rfl, hb2⟩
theorem tbad_prefix (hc : W.cell? ⟨b0, o0, none⟩ = some (.string prefixK)) (hl : b0 < W.heap.size) (h0 : 0 < n) (h4 : n ≠ 4) : Calls Tryz.prog 50 #[.pointer (some ⟨g, 0, none⟩), .slice (some ⟨b0, o0, none⟩) n c] W (fun e w' => e = .returned (.int .i64 2) ∧ Bel W w') := by
 have CK : Hid (∀ W', Calls Tryz.prog 90 #[.string prefixK] W' (RetB W' true)) := fun W' => by
  have h1 := tkind_h (s := prefixK) W'
  rwa [show kindB prefixK = true by decide +kernel] at h1
 have n0 : ((n : Int) == 0) = false := by rw [beq_eq_false_iff_ne]; omega
 have n4 : ((n : Int) == 4) = false := by rw [beq_eq_false_iff_ne]; omega
 have hlt : (0 : Int) < (n : Int) := by omega
 unfold prefixK at hc CK
 clear h4
 go_enter Tryz.func50, Tryz.ntmps50
 go_wp2_with (first | (go_at_call 90; (with_reducible refine (CK.out _).mono ?_); rintro e w2 ⟨rfl, hb2⟩) | fail)
 go_ret
 exact ⟨rfl, hb2⟩
theorem tbad_unit (hc : W.cell? ⟨b0, o0, none⟩ = some (.string unitK)) (hl : b0 < W.heap.size) (h0 : 0 < n) (h4 : n ≠ 4) (h5 : n ≠ 5) : Calls Tryz.prog 50 #[.pointer (some ⟨g, 0, none⟩), .slice (some ⟨b0, o0, none⟩) n c] W (fun e w' => e = .returned (.int .i64 2) ∧ Bel W w') := by
 have CK : Hid (∀ W', Calls Tryz.prog 90 #[.string unitK] W' (RetB W' true)) := fun W' => by
  have h1 := tkind_h (s := unitK) W'
  rwa [show kindB unitK = true by decide +kernel] at h1
 have n0 : ((n : Int) == 0) = false := by rw [beq_eq_false_iff_ne]; omega
 have n4 : ((n : Int) == 4) = false := by rw [beq_eq_false_iff_ne]; omega
 have n5 : ((n : Int) == 5) = false := by rw [beq_eq_false_iff_ne]; omega
 have hlt : (0 : Int) < (n : Int) := by omega
 unfold unitK at hc CK
 clear h4 h5
 go_enter Tryz.func50, Tryz.ntmps50
 go_wp2_with (first | (go_at_call 90; (with_reducible refine (CK.out _).mono ?_); rintro e w2 ⟨rfl, hb2⟩) | fail)
 go_ret
 exact ⟨rfl, hb2⟩
theorem tbad_quantity (hc : W.cell? ⟨b0, o0, none⟩ = some (.string quantityK)) (hl : b0 < W.heap.size) (h0 : 0 < n) (h3 : n ≠ 3) : Calls Tryz.prog 50 #[.pointer (some ⟨g, 0, none⟩), .slice (some ⟨b0, o0, none⟩) n c] W (fun e w' => e = .returned (.int .i64 2) ∧ Bel W w') := by
 have CK : Hid (∀ W', Calls Tryz.prog 90 #[.string quantityK] W' (RetB W' true)) := fun W' => by
  have h1 := tkind_h (s := quantityK) W'
  rwa [show kindB quantityK = true by decide +kernel] at h1
 have n0 : ((n : Int) == 0) = false := by rw [beq_eq_false_iff_ne]; omega
 have n3 : ((n : Int) == 3) = false := by rw [beq_eq_false_iff_ne]; omega
 have hlt : (0 : Int) < (n : Int) := by omega
 unfold quantityK at hc CK
 clear h3
 go_enter Tryz.func50, Tryz.ntmps50
 go_wp2_with (first | (go_at_call 90; (with_reducible refine (CK.out _).mono ?_); rintro e w2 ⟨rfl, hb2⟩) | fail)
 go_ret
 exact ⟨rfl, hb2⟩
theorem tbad_alias (hc : W.cell? ⟨b0, o0, none⟩ = some (.string aliasK)) (hl : b0 < W.heap.size) (h0 : 0 < n) (h3 : n ≠ 3) : Calls Tryz.prog 50 #[.pointer (some ⟨g, 0, none⟩), .slice (some ⟨b0, o0, none⟩) n c] W (fun e w' => e = .returned (.int .i64 2) ∧ Bel W w') := by
 have CK : Hid (∀ W', Calls Tryz.prog 90 #[.string aliasK] W' (RetB W' true)) := fun W' => by
  have h1 := tkind_h (s := aliasK) W'
  rwa [show kindB aliasK = true by decide +kernel] at h1
 have n0 : ((n : Int) == 0) = false := by rw [beq_eq_false_iff_ne]; omega
 have n3 : ((n : Int) == 3) = false := by rw [beq_eq_false_iff_ne]; omega
 have hlt : (0 : Int) < (n : Int) := by omega
 unfold aliasK at hc CK
 clear h3
 go_enter Tryz.func50, Tryz.ntmps50
 go_wp2_with (first | (go_at_call 90; (with_reducible refine (CK.out _).mono ?_); rintro e w2 ⟨rfl, hb2⟩) | fail)
 go_ret
 exact ⟨rfl, hb2⟩
theorem tother (hc : W.cell? ⟨b0, o0, none⟩ = some (.string k)) (hl : b0 < W.heap.size) (h0 : 0 < n) (h1 : k ≠ baseK) (h2 : k ≠ prefixK) (h3 : k ≠ unitK) (h4 : k ≠ quantityK) (h5 : k ≠ aliasK) : Calls Tryz.prog 50 #[.pointer (some ⟨g, 0, none⟩), .slice (some ⟨b0, o0, none⟩) n c] W (fun e w' => e = .returned (.int .i64 0) ∧ Bel W w') := by
 have CK : Hid (∀ W', Calls Tryz.prog 90 #[.string k] W' (RetB W' false)) := fun W' => by
  have h1 := tkind_h (s := k) W'
  rwa [show kindB k = false by unfold kindB; rw [decide_eq_false (by assumption), decide_eq_false h2, decide_eq_false h3, decide_eq_false h4, decide_eq_false h5]; rfl] at h1
 have m1 : (k.toList == [98, 97, 115, 101]) = false := str_lit h1 rfl
 have m2 : (k.toList == [112, 114, 101, 102, 105, 120]) = false := str_lit h2 rfl
 have m3 : (k.toList == [117, 110, 105, 116]) = false := str_lit h3 rfl
 have m4 : (k.toList == [113, 117, 97, 110, 116, 105, 116, 121]) = false := str_lit h4 rfl
 have m5 : (k.toList == [97, 108, 105, 97, 115]) = false := str_lit h5 rfl
 have n0 : ((n : Int) == 0) = false := by rw [beq_eq_false_iff_ne]; omega
 have hlt : (0 : Int) < (n : Int) := by omega
 clear h1 h2 h3 h4 h5
 go_enter Tryz.func50, Tryz.ntmps50
 go_wp2_with (first | (go_at_call 90; (with_reducible refine (CK.out _).mono ?_); rintro e w2 ⟨rfl, hb2⟩) | fail)
 go_ret
 exact ⟨rfl, hb2⟩
theorem tnone {A : Option Addr} : Calls Tryz.prog 50 #[.pointer (some ⟨g, 0, none⟩), .slice A 0 c] W (fun e w' => e = .returned (.int .i64 0) ∧ Bel W w') := by
 go_enter Tryz.func50, Tryz.ntmps50
 go_wp2
 go_ret
 exact ⟨rfl, Bel.refl W⟩
theorem trow_h {A : Option Addr} (h : LdM base W g p y x T) (ok : OkT N T) (hN : N ≤ 900000) (hbase : base ≤ W.heap.size) (tb : Tabs W) (hw : RS W base A w) (hn : n = w.length) (hnc : n ≤ c) (hz : ∀ s ∈ w, s.size ≤ 2000000) :
 Calls Tryz.prog 50 #[.pointer (some ⟨g, 0, none⟩), .slice A n c] W (StR base W g p y x (T.row w)) := by
 cases w with
 | nil =>
   obtain rfl : n = 0 := hn
   exact tnone.mono fun e w' ⟨h1, h2⟩ => ⟨h1, Stp.of_up h h2.hid⟩
 | cons k r =>
   obtain ⟨ad, rfl, hb0, hc⟩ := hw (by simp)
   have h0 := hc 0 k rfl
   obtain ⟨b0, o0, hbo⟩ := plainT h0
   rw [show ad.add 0 = ad by simp [Addr.add]] at hbo
   subst hbo
   have cc : ∀ (j : Nat) (s : ByteArray), (k :: r)[j]? = some s → W.cell? ⟨b0, o0 + j, none⟩ = some (.string s) := fun j s hj => by
    have h1 := hc j s hj
    have e : (⟨b0, o0, none⟩ : Addr).add j = ⟨b0, o0 + j, none⟩ := by unfold Addr.add; split <;> simp_all
    rwa [e] at h1
   have hk : W.cell? ⟨b0, o0, none⟩ = some (.string k) := cc 0 k rfl
   have hl : b0 < W.heap.size := Nat.lt_of_lt_of_le hb0 hbase
   have hn0 : 0 < n := by rw [hn]; exact Nat.succ_pos _
   have hnr : n = r.length + 1 := hn
   have bad : kindB k = true → (k = baseK → r.length ≠ 2) → (k = prefixK → r.length ≠ 3) → (k = unitK → r.length ≠ 3 ∧ r.length ≠ 4) → (k = quantityK → r.length ≠ 2) → (k = aliasK → r.length ≠ 2) → T.row (k :: r) = .error 2 := fun hk h1 h2 h3 h4 h5 => by rw [row_bad h1 h2 h3 h4 h5, if_pos hk]
   have fin : T.row (k :: r) = .error 2 → Calls Tryz.prog 50 #[.pointer (some ⟨g, 0, none⟩), .slice (some ⟨b0, o0, none⟩) n c] W (fun e w' => e = .returned (.int .i64 2) ∧ Bel W w') → Calls Tryz.prog 50 #[.pointer (some ⟨g, 0, none⟩), .slice (some ⟨b0, o0, none⟩) n c] W (StR base W g p y x (T.row (k :: r))) := fun e1 hh => by
    rw [e1]; exact hh
   by_cases k1 : k = baseK
   ·subst k1
    by_cases hr : r.length = 2
    ·obtain ⟨a, b, rfl⟩ := len_two hr
     obtain rfl : n = 3 := hnr
     exact trow_base h ok hN hbase tb ⟨hk, cc 1 a rfl, cc 2 b rfl⟩ hb0 hnc hz
    ·exact fin (bad (by decide +kernel) (fun _ => hr) (fun e => absurd e (by decide)) (fun e => absurd e (by decide)) (fun e => absurd e (by decide)) (fun e => absurd e (by decide))) (tbad_base hk hl hn0 (by omega))
   by_cases k2 : k = prefixK
   ·subst k2
    by_cases hr : r.length = 3
    ·obtain ⟨a, b, d, rfl⟩ := len_three hr
     obtain rfl : n = 4 := hnr
     exact trow_prefix h ok hN hbase tb ⟨hk, cc 1 a rfl, cc 2 b rfl, cc 3 d rfl⟩ hb0 hnc hz
    ·exact fin (bad (by decide +kernel) (fun e => absurd e (by decide)) (fun _ => hr) (fun e => absurd e (by decide)) (fun e => absurd e (by decide)) (fun e => absurd e (by decide))) (tbad_prefix hk hl hn0 (by omega))
   by_cases k3 : k = unitK
   ·subst k3
    by_cases hr : r.length = 3
    ·obtain ⟨a, b, d, rfl⟩ := len_three hr
     obtain rfl : n = 4 := hnr
     exact trow_unit4 h ok hN hbase tb ⟨hk, cc 1 a rfl, cc 2 b rfl, cc 3 d rfl⟩ hb0 hnc hz
    by_cases hr4 : r.length = 4
    ·obtain ⟨a, b, d, f, rfl⟩ := len_four hr4
     obtain rfl : n = 5 := hnr
     exact trow_unit5 h ok hN hbase tb ⟨hk, cc 1 a rfl, cc 2 b rfl, cc 3 d rfl, cc 4 f rfl⟩ hb0 hnc hz
    ·exact fin (bad (by decide +kernel) (fun e => absurd e (by decide)) (fun e => absurd e (by decide)) (fun _ => ⟨hr, hr4⟩) (fun e => absurd e (by decide)) (fun e => absurd e (by decide))) (tbad_unit hk hl hn0 (by omega) (by omega))
   by_cases k4 : k = quantityK
   ·subst k4
    by_cases hr : r.length = 2
    ·obtain ⟨a, b, rfl⟩ := len_two hr
     obtain rfl : n = 3 := hnr
     exact trow_quantity h ok hN hbase tb ⟨hk, cc 1 a rfl, cc 2 b rfl⟩ hb0 hnc hz
    ·exact fin (bad (by decide +kernel) (fun e => absurd e (by decide)) (fun e => absurd e (by decide)) (fun e => absurd e (by decide)) (fun _ => hr) (fun e => absurd e (by decide))) (tbad_quantity hk hl hn0 (by omega))
   by_cases k5 : k = aliasK
   ·subst k5
    by_cases hr : r.length = 2
    ·obtain ⟨a, b, rfl⟩ := len_two hr
     obtain rfl : n = 3 := hnr
     exact trow_alias h ok hN hbase tb ⟨hk, cc 1 a rfl, cc 2 b rfl⟩ hb0 hnc hz
    ·exact fin (bad (by decide +kernel) (fun e => absurd e (by decide)) (fun e => absurd e (by decide)) (fun e => absurd e (by decide)) (fun e => absurd e (by decide)) (fun _ => hr)) (tbad_alias hk hl hn0 (by omega))
   have e1 : T.row (k :: r) = .ok T := by
    rw [row_bad (fun e => absurd e k1) (fun e => absurd e k2) (fun e => absurd e k3) (fun e => absurd e k4) (fun e => absurd e k5)]
    rw [if_neg]
    unfold kindB
    rw [decide_eq_false k1, decide_eq_false k2, decide_eq_false k3, decide_eq_false k4, decide_eq_false k5]
    decide
   rw [e1]
   exact (tother hk hl hn0 k1 k2 k3 k4 k5).mono fun e w' ⟨h1, h2⟩ => ⟨h1, Stp.of_up h h2.hid⟩
end
theorem okT_nil (n : Nat) : OkT n Tb.nil := ⟨fun s e h => (by cases h), fun s r h => (by cases h), by decide, Nat.zero_le _, Nat.zero_le _, Nat.zero_le _, Nat.zero_le _⟩
theorem tnew_h (W : World) : Calls Tryz.prog 49 #[] W fun e w' => ∃ g p y x, e = .returned (.pointer (some ⟨g, 0, none⟩)) ∧ LdM W.heap.size w' g p y x Tb.nil ∧ Bel W w' := by
 have CQ := khide qnew_h
 have hmm := @run_makeMap Tryz.prog
 go_enter Tryz.func49, Tryz.ntmps49
 go_wp2_with (first | (go_at_call 84; (with_reducible refine (CQ.out _).mono ?_); rintro e w2 ⟨p2, b4, rfl, hq, hp2, hb4, hb⟩) | fail)
 clear hmm
 have al : ∀ {V : World} {b : Nat} {l : List (ByteArray × Value)} (_ : MapV V b l) (o : Obj), MapV (V.alloc o) b l := fun h o => h.up ((Below.refl _ _).alloc (Nat.le_refl _) o)
 have e1 : (W.alloc (.map #[] 0)).heap.size = W.heap.size + 1 := by simp
 have e2 : ((W.alloc (.map #[] 0)).alloc (.map #[] 0)).heap.size = W.heap.size + 1 + 1 := by simp
 have e3 : (((W.alloc (.map #[] 0)).alloc (.map #[] 0)).alloc (.map #[] 0)).heap.size = W.heap.size + 1 + 1 + 1 := by simp
 have m1 := (al (al (mapV_new W) (.map #[] 0)) (.map #[] 0)).up hb
 have m2 := (al (mapV_new (W.alloc (.map #[] 0))) (.map #[] 0)).up hb
 have m3 := (mapV_new ((W.alloc (.map #[] 0)).alloc (.map #[] 0))).up hb
 rw [e1] at m2
 rw [e2] at m3
 have hbw : Bel W w2 := ((((Bel.refl W).al _).al _).al _).up hb
 have hsz : W.heap.size + 1 + 1 + 1 ≤ w2.heap.size := by rw [← e3]; exact hb.out.size
 have hq2 := hq.hb
 have hq3 := hq.hp
 rw [e3] at hq2 hq3
 clear hb e1 e2 e3
 obtain ⟨o1, ho1⟩ : ∃ o, o = Obj.cells #[.slice none 0 0, .slice none 0 0, .map (some W.heap.size), .map (some (W.heap.size + 1)), .map (some (W.heap.size + 1 + 1)), .pointer (some ⟨p2, 0, none⟩)] 89 := ⟨_, rfl⟩
 obtain ⟨o3, ho3⟩ : ∃ o, o = Obj.cells #[.pointer (some ⟨w2.heap.size, 0, none⟩), .int .i64 0, .map (some (w2.heap.size + 1))] 124 := ⟨_, rfl⟩
 refine vname_end ?_
 intro w3 hw3
 have hw : w3 = ((w2.alloc o1).alloc (.map #[] 0)).alloc o3 := by rw [hw3, ho1, ho3]
 clear hw3
 have f1 : (w2.alloc o1).heap.size = w2.heap.size + 1 := by simp
 have f2 : ((w2.alloc o1).alloc (.map #[] 0)).heap.size = w2.heap.size + 1 + 1 := by simp
 have B1 : w3.heap[w2.heap.size]? = some o1 := by
  rw [hw]
  exact (Below.heap_alloc _ _ _ (by rw [f2]; omega)).trans ((Below.heap_alloc _ _ _ (by rw [f1]; omega)).trans (heap_alloc_new w2 o1))
 have B2 : w3.heap[w2.heap.size + 1 + 1]? = some o3 := by
  have h1 := heap_alloc_new ((w2.alloc o1).alloc (.map #[] 0)) o3
  rw [f2] at h1
  rw [hw]; exact h1
 have M4 : MapV w3 (w2.heap.size + 1) [] := by
  have h1 := al (mapV_new (w2.alloc o1)) o3
  rw [f1] at h1
  rw [hw]; exact h1
 have HB : Hid (Below w2.heap.size w2 w3) := by rw [hw]; exact Bel.hid ((((Bel.refl w2).al _).al _).al _)
 clear hw f1 f2
 refine bodyPost_ret (v := .pointer (some ⟨w2.heap.size + 1 + 1, 0, none⟩)) (by simp [results, Tryz.results49, go_sem]) rfl ?_
 refine ⟨w2.heap.size + 1 + 1, w2.heap.size, w2.heap.size + 1, ⟨.slice none 0 0, .slice none 0 0, W.heap.size, W.heap.size + 1, W.heap.size + 1 + 1, p2, b4, .slice none 0 0⟩, rfl, ⟨by rw [B2, ho3]; rfl, by omega, by omega, ⟨by rw [B1, ho1], by omega, ?_, Row.nil _ _, Row.nil _ _, ⟨[], m1.up HB, Rel.nil⟩, ⟨[], m2.up HB, Rel.nil⟩, m3.up HB, ?_, ?_, List.nodup_nil⟩, ⟨[], M4, Rel.nil⟩, ?_⟩, hbw.up HB⟩
 ·intro b hb
  simp only [List.mem_cons, List.mem_nil_iff, or_false] at hb
  rcases hb with rfl | rfl | rfl | rfl | rfl <;> omega
 ·have t := Turn.of HB
  exact ⟨(t.block p2 hp2 List.not_mem_nil).trans hq.blk, Nat.le_trans (show W.heap.size ≤ W.heap.size + 1 + 1 + 1 by omega) hq3, Nat.le_trans (show W.heap.size ≤ W.heap.size + 1 + 1 + 1 by omega) hq2, Row.nil _ _, (hq.turn t List.not_mem_nil List.not_mem_nil (fun _ _ => List.not_mem_nil)).map, rfl, fun _ => rfl⟩
 ·simp; omega
 ·simp; omega
end Go.Proofs.YtfflmmbhpchloaaGreatDoor
end
section
open Go.RowKit
namespace Go.Proofs.YtfflmmbhpchloaaGreatDoor
theorem rows_cons (x : Int × List ByteArray) (l : List (Int × List ByteArray)) (T : Tb) : T.rows (x :: l) = match T.row x.2 with
  | .error v => .error (x.1, v)
  | .ok T' => T'.rows l := rfl
theorem rows_app : ∀ (l r : List (Int × List ByteArray)) (T : Tb), T.rows (l ++ r) = match T.rows l with
  | .error v => .error v
  | .ok T' => T'.rows r
 | [], _, _ => rfl
 | x :: l, r, T => by
   rw [List.cons_append, rows_cons, rows_cons]
   cases h : T.row x.2 with
   | error v => rfl
   | ok T' => exact rows_app l r T'
theorem rows_one (x : Int × List ByteArray) (T : Tb) : T.rows [x] = match T.row x.2 with
  | .error v => .error (x.1, v)
  | .ok T' => .ok T' := by
 unfold Tb.rows
 cases T.row x.2 <;> rfl
end Go.Proofs.YtfflmmbhpchloaaGreatDoor
end
section
open Go.RowKit
open Go.Proofs.YtfflmmbhpchloaaGreatDoor.V
namespace Go.Proofs.YtfflmmbhpchloaaGreatDoor
theorem part_nz {T : Tb} {s : ByteArray} {v : Int} (h : T.part s = .error v) : v ≠ 0 := by rcases part_codes h with h | h <;> omega
theorem define_nz {T : Tb} {s : ByteArray} {e : Ent} {p : PL} {v : Int} (h : T.define s e p = .error v) : v ≠ 0 := by
 unfold Tb.define at h
 split at h
 ·injection h with h; omega
 ·cases hv : T.vec (p.1, p.2.1) with
  | none => rw [hv] at h; injection h with h; omega
  | some u =>
    rw [hv] at h
    dsimp only at h
    split at h
    ·injection h with h; omega
    ·cases h
theorem row_nz {T : Tb} {w : List ByteArray} {v : Int} (h : T.row w = .error v) : v ≠ 0 := by
 unfold Tb.row at h
 cases w with
 | nil => cases h
 | cons k r =>
   dsimp only at h
   split at h
   ·unfold Tb.addBase at h
    split at h
    ·injection h with h; rw [← h]; assumption
    ·split at h
     ·injection h with h; omega
     ·split at h
      ·injection h with h; omega
      ·split at h
       ·injection h with h; omega
       ·cases h
   ·split at h
    ·unfold Tb.addPrefix at h
     split at h
     ·injection h with h; omega
     ·split at h
      ·injection h with h; omega
      ·split at h
       ·cases h
       ·injection h with h; omega
    ·split at h
     ·unfold Tb.addUnit at h
      split at h
      ·injection h with h; rw [← h]; assumption
      ·split at h
       ·injection h with h; omega
       ·split at h
        ·injection h with h; omega
        ·split at h
         ·rename_i hp; injection h with h; rw [← h]; exact part_nz hp
         ·split at h
          ·exact define_nz h
          ·split at h
           ·injection h with h; omega
           ·exact define_nz h
     ·split at h
      ·unfold Tb.addQuantity at h
       split at h
       ·injection h with h; omega
       ·split at h
        ·rename_i hp; injection h with h; rw [← h]; exact part_nz hp
        ·split at h
         ·injection h with h; omega
         ·split at h
          ·injection h with h; omega
          ·cases h
      ·split at h
       ·unfold Tb.addAlias at h
        split at h
        ·injection h with h; rw [← h]; assumption
        ·split at h
         ·rename_i hp; injection h with h; rw [← h]; exact part_nz hp
         ·cases h
       ·split at h
        ·injection h with h; omega
        ·cases h
def LW (w : World) (B : Nat) (A : Option Addr) (rs : List (Int × List ByteArray)) : Prop :=
 0 < rs.length → ∃ g o : Nat, A = some ⟨g, o, none⟩ ∧ g < B ∧ ∀ j r, rs[j]? = some r → ∃ A' c, w.cell? ⟨g, o + j * 2, none⟩ = some (.int .i64 r.1) ∧ w.cell? ⟨g, o + j * 2 + 1, none⟩ = some (.slice A' r.2.length c) ∧ r.2.length ≤ c ∧ RS w B A' r.2
theorem LW.keep {w w' : World} {B : Nat} {A : Option Addr} {rs : List (Int × List ByteArray)} (h : LW w B A rs) (hk : ∀ p : Addr, p.block < B → w'.cell? p = w.cell? p) : LW w' B A rs := fun hn => by
 obtain ⟨g, o, e, hb, hc⟩ := h hn
 refine ⟨g, o, e, hb, fun j r hj => ?_⟩
 obtain ⟨A', c, h1, h2, h3, h4⟩ := hc j r hj
 exact ⟨A', c, (hk _ hb).trans h1, (hk _ hb).trans h2, h3, h4.keep hk⟩
def LoadR (W : World) (res : Except (Int × Int) Tb) (e : Ending) (w' : World) : Prop := match res with
 | .error z => e = .returned (.tuple #[.pointer none, .int .i64 z.1, .int .i64 z.2]) ∧ Bel W w'
 | .ok T => ∃ p x, e = .returned (.tuple #[.pointer (some ⟨p, 0, none⟩), .int .i64 0, .int .i64 0]) ∧ TabM W.heap.size w' p x T ∧ Bel W w'
theorem drop_row {rs : List (Int × List ByteArray)} {k : Nat} {r : Int × List ByteArray} (h : rs[k]? = some r) (T : Tb) : T.rows (rs.drop k) = match T.row r.2 with
  | .error v => .error (r.1, v)
  | .ok T' => T'.rows (rs.drop (k + 1)) := by
 have hk := (List.getElem?_eq_some_iff.1 h).1
 rw [List.drop_eq_getElem_cons hk, (List.getElem?_eq_some_iff.1 h).2, rows_cons]
 all_goals (cases T.row r.2 <;> rfl)
section
variable {W : World} {A : Option Addr} {n c : Nat} {rs : List (Int × List ByteArray)}
theorem tload_h (h : LW W W.heap.size A rs) (hn : n = rs.length) (hN : n ≤ 900000) (hz : ∀ r ∈ rs, ∀ s ∈ r.2, s.size ≤ 2000000) (tb : Tabs W) :
 Calls Tryz.prog 25 #[.slice A n c] W (LoadR W (Tb.nil.rows rs)) := by
 have HN := khide hn
 have HZ := khide hz
 have HTB := khide tb
 have HH := khide h
 obtain ⟨res, hres⟩ : ∃ z, Tb.nil.rows rs = z := ⟨_, rfl⟩
 rw [hres]
 have HRES := khide hres
 have CN := khide (tnew_h W)
 clear h hn hz tb hres
 go_enter Tryz.func25, Tryz.ntmps25
 go_wp2_with (first | (go_at_call 49; (with_reducible refine CN.out.mono ?_); rintro e w1 ⟨g, p, y, x0, rfl, hl0, hb1⟩) | fail)
 have HL0 := khide hl0
 have HB1 := khide hb1
 clear hl0 hb1
 go_loopw [12] (fun iv wr => ∃ (k : Nat) (x : TPl) (T : Tb), k ≤ n ∧ iv = .int .i64 (k : Int) ∧ Hid (LdM W.heap.size wr g p y x T) ∧ Hid (OkT k T) ∧ Hid (T.rows (rs.drop k) = res) ∧ Hid (Below W.heap.size W wr)) (fun iv _ => n - (intOf iv).toNat)
 case atStart => exact ⟨0, x0, Tb.nil, Nat.zero_le _, rfl, HL0, okT_nil 0, HRES, HB1.out.hid⟩
 case round =>
  obtain ⟨k, x, T, hk, rfl, HL, HO, HR, HW⟩ := hrel
  by_cases hlt : k < n
  ·obtain ⟨r, hr⟩ : ∃ r, rs[k]? = some r := ⟨rs[k]'(by rw [← HN.out]; exact hlt), List.getElem?_eq_getElem (by rw [← HN.out]; exact hlt)⟩
   have hwr : LW wr W.heap.size A rs := HH.out.keep fun q hq => HW.out.cell hq
   obtain ⟨gr, og, rfl, hgr, hcs⟩ := hwr (by rw [← HN.out]; omega)
   obtain ⟨A2, c2, hc0, hc1, hmc, hss⟩ := hcs k r hr
   have hrm : r ∈ rs := List.mem_of_getElem? hr
   have HDR := khide (drop_row hr T)
   obtain ⟨r1, r2⟩ := r
   obtain ⟨m, hm⟩ : ∃ m, r2.length = m := ⟨_, rfl⟩
   have hc0' : wr.cell? ⟨gr, og + k * 2, none⟩ = some (.int .i64 r1) := hc0
   have hc1' : wr.cell? ⟨gr, og + k * 2 + 1, none⟩ = some (.slice A2 m c2) := by rw [← hm]; exact hc1
   have HGL : gr < wr.heap.size := Nat.lt_of_lt_of_le hgr HW.out.size
   have CB : Hid (∀ W', Bel wr W' → Calls Tryz.prog 50 #[.pointer (some ⟨g, 0, none⟩), .slice A2 m c2] W' (StR W.heap.size W' g p y x (T.row r2))) := fun W' hb =>
    trow_h (HL.out.up hb.hid) HO.out (by omega) (Nat.le_trans HW.out.size hb.hid.out.size) (HTB.out.up ((Bel.of HW).up hb.hid).hid) (hss.keep fun q hq => hb.hid.out.cell (Nat.lt_of_lt_of_le hq HW.out.size)) hm.symm (by rw [← hm]; exact hmc) (HZ.out _ hrm)
   have HBW : Hid (W.heap.size ≤ wr.heap.size) := HW.out.size
   clear hwr hcs hc0 hc1 hmc hss hrm hr hm hgr
   cases hrow : T.row r2 with
   | error v =>
     have hv := row_nz hrow
     have e1 : res = .error (r1, v) := by rw [← HR.out, HDR.out, hrow]
     rw [hrow] at CB
     rw [e1]
     have CB2 : Hid (∀ W', Bel wr W' → Calls Tryz.prog 50 #[.pointer (some ⟨g, 0, none⟩), .slice A2 m c2] W' (fun e w' => e = .returned (.int .i64 v) ∧ Bel W' w')) := CB
     have d0 : (v != 0) = true := by rw [bne_iff_ne]; exact hv
     have d1 : (v == 0) = false := by rw [beq_eq_false_iff_ne]; exact hv
     clear CB hrow hv e1 HDR
     go_upto_region 5 with fail
     refine kwp_named ?_
     intro w2 hw2
     have HX : At w2 wr.heap.size [.int .i64 r1, .slice A2 m c2] := by rw [hw2]; exact at_new0 _ _ _
     have HB2 : Bel wr w2 := by rw [hw2]; exact (Bel.refl wr).al _
     obtain ⟨qr, hqr⟩ : ∃ z, z = wr.heap.size := ⟨_, rfl⟩
     rw [← hqr] at HX ⊢
     clear hw2 hqr hc0' hc1' HGL
     have x0 := HX.c0; have x1 := HX.c1; have xl := HX.lt
     go_upto_region 7 with (first | (go_at_call 50; (with_reducible refine (CB2.out _ HB2).mono ?_); rintro e w3 ⟨rfl, hb3⟩; replace HX := HX.up hb3.hid; replace HB2 := HB2.up hb3.hid; clear x0 x1 xl; have x0 := HX.c0; have x1 := HX.c1; have xl := HX.lt) | fail)
     go_quiet (fail)
     go_wp2_with fail
     refine vname_end ?_
     intro w5 hw5
     have HB5 : Bel wr w5 := by rw [hw5]; exact ybelow_drewN HB2 _
     refine bodyPost_ret (v := .tuple #[.pointer none, .int .i64 r1, .int .i64 v]) (by simp [results, Tryz.results25, go_sem]) rfl ?_
     exact ⟨rfl, (Bel.of HW).up HB5.hid⟩
   | ok T' =>
     rw [hrow] at CB
     have HO2 := khide (okT_row HO.out hrow)
     have e1 : Hid (T'.rows (rs.drop (k + 1)) = res) := by rw [← HR.out, HDR.out, hrow]; rfl
     have CB2 : Hid (∀ W', Bel wr W' → Calls Tryz.prog 50 #[.pointer (some ⟨g, 0, none⟩), .slice A2 m c2] W' (fun e w' => e = .returned (.int .i64 0) ∧ Stp W.heap.size W' g p y x T' w')) := CB
     clear CB hrow HDR
     go_upto_region 5 with fail
     refine kwp_named ?_
     intro w2 hw2
     have HX : At w2 wr.heap.size [.int .i64 r1, .slice A2 m c2] := by rw [hw2]; exact at_new0 _ _ _
     have HB2 : Bel wr w2 := by rw [hw2]; exact (Bel.refl wr).al _
     obtain ⟨qr, hqr⟩ : ∃ z, z = wr.heap.size := ⟨_, rfl⟩
     rw [← hqr] at HX ⊢
     clear hw2 hqr hc0' hc1' HGL
     have x0 := HX.c0; have x1 := HX.c1; have xl := HX.lt
     go_wp2_with (first | (go_at_call 50; (with_reducible refine (CB2.out _ HB2).mono ?_); rintro e w3 ⟨rfl, hst⟩) | fail)
     have HBL : Hid (Below W.heap.size W w3) := HW.out.trans ((HB2.hid.out.mono HBW.out).trans (hst.below (HL.out.up HB2.hid) (Nat.le_trans HBW.out HB2.sz)))
     obtain ⟨x', hl', _, _, _⟩ := hst
     have HL' := khide hl'
     clear hl' x0 x1 xl HX HB2
     go_roundw
     case rel => exact ⟨k + 1, x', T', by omega, by go_num, HL', HO2, e1, HBL⟩
     case measure => simp [intOf]; omega
  ·obtain rfl : k = n := by omega
   have e1 : res = .ok T := by
    have h1 := HR.out
    rw [List.drop_eq_nil_of_le (by rw [HN.out]; exact Nat.le_refl _)] at h1
    exact h1.symm
   have HE1 := khide e1
   have g0 := HL.out.c0; have gl := HL.out.lt
   clear e1
   go_wp2_with fail
   refine bodyPost_ret (v := .tuple #[.pointer (some ⟨p, 0, none⟩), .int .i64 0, .int .i64 0]) (by simp [results, Tryz.results25, go_sem]) rfl ?_
   show LoadR W res _ _
   rw [HE1.out]
   exact ⟨p, x, rfl, HL.out.tab, Bel.of HW⟩
end
end Go.Proofs.YtfflmmbhpchloaaGreatDoor
end
section
open Go.ChangeShapes Go.WideShapes Go.ChangeAt Go.RowKit
namespace Go.Proofs.YtfflmmbhpchloaaGreatDoor
theorem open_ssT {H : Type} {enc : TypeId × Value → H} {W : World} {a : Option Addr} {len cap fuel : Nat} {y : DataW H × List MemPlace}
 (hf : DataW.trod enc Tryz.prog W 0 (fun _ => true) true fuel 60 [.slice a len cap] = some y) : ∃ xs : List ByteArray, len = xs.length ∧ len ≤ cap ∧ Ss W a xs := by
 rcases Go.Deep.open_strs Tryz.underlying60 Tryz.underlying9 (by kernel_rfl) hf with ⟨hcs, _⟩ | ⟨x, l, c, m, Sx, hcs, _, hl, hm, hmm, _, hcell⟩
 ·simp at hcs
  obtain ⟨rfl, rfl, rfl⟩ := hcs
  exact ⟨[], rfl, Nat.le_refl _, RS.nil⟩
 ·simp at hcs
  obtain ⟨rfl, rfl, rfl⟩ := hcs
  have hmc : m = cap := by simpa using hmm
  subst hmc
  refine ⟨(List.range len).map Sx, by simp, hl, fun h0 => ?_⟩
  rw [List.length_map, List.length_range] at h0
  have hc0 := (hcell 0 (by omega)).1
  refine ⟨x, rfl, ?_, fun j y hy => ?_⟩
  ·have := World.block_lt_of_cell? W _ hc0
   rwa [yblock_add] at this
  ·have hj : j < len := by
    rcases Nat.lt_or_ge j len with h1 | h1
    ·exact h1
    ·rw [List.getElem?_eq_none (by simpa using h1)] at hy; cases hy
   rw [List.getElem?_map, List.getElem?_range hj] at hy
   simp at hy
   rw [← hy]
   exact (hcell j (by omega)).1
theorem addr_plain (b o i : Nat) : (⟨b, o, none⟩ : Addr).add i = ⟨b, o + i, none⟩ := by unfold Addr.add; split <;> simp_all
theorem open_ssV {H : Type} {enc : TypeId × Value → H} {W : World} {v : Value} {fuel : Nat} {y : DataW H × List MemPlace}
 (hf : DataW.trod enc Tryz.prog W 0 (fun _ => true) true fuel 60 [v] = some y) : ∃ (A : Option Addr) (c : Nat) (xs : List ByteArray), v = .slice A xs.length c ∧ xs.length ≤ c ∧ Ss W A xs := by
 rcases Go.Deep.open_slice Tryz.underlying60 hf with ⟨hcs, _⟩ | ⟨x, l, c, m, n, D, Pl, hcs, _⟩
 ·injection hcs with hcs
  exact ⟨none, 0, [], hcs, Nat.le_refl _, RS.nil⟩
 ·injection hcs with hcs
  subst hcs
  obtain ⟨xs, h1, h2, h3⟩ := open_ssT hf
  subst h1
  exact ⟨_, _, xs, rfl, h2, h3⟩
theorem open_rows {H : Type} {enc : TypeId × Value → H} {W : World} {a : Option Addr} {len cap : Nat} {d : DataW H} {p : List MemPlace}
 (h : DataW.Trod enc Tryz.prog W 0 (fun _ => true) true 70 (.slice a len cap) d p) : ∃ rs : List (Int × List ByteArray), len = rs.length ∧ len ≤ cap ∧ LW W W.heap.size a rs := by
 obtain ⟨fuel, hf⟩ := h
 rcases Go.Deep.open_slice_pairs Tryz.underlying70 Tryz.underlying72 (by kernel_rfl) rfl rfl (by kernel_rfl) (by kernel_rfl) hf with ⟨hcs, _⟩ | ⟨x, l, c, m, n, V0, V1, D0, D1, P0, P1, hcs, _, hl, hm, hmm, _, hx⟩
 ·simp [Value.cells] at hcs
  obtain ⟨rfl, rfl, rfl⟩ := hcs
  exact ⟨[], rfl, Nat.le_refl _, fun h0 => absurd h0 (by simp)⟩
 ·simp [Value.cells] at hcs
  obtain ⟨rfl, rfl, rfl⟩ := hcs
  have hmc : m = cap := by simpa using hmm
  subst hmc
  have each : ∀ i, i < len → ∃ q : Int × List ByteArray, V0 i = .int .i64 q.1 ∧ ∃ A' c', V1 i = .slice A' q.2.length c' ∧ q.2.length ≤ c' ∧ RS W W.heap.size A' q.2 := fun i hi => by
   obtain ⟨_, _, h2, h3⟩ := hx i (by omega)
   obtain ⟨k, e, _⟩ := DataW.trod_int Tryz.underlying3 h2
   injection e with e
   obtain ⟨A', c', xs, e1, e2, e3⟩ := open_ssV h3
   exact ⟨(k, xs), e, A', c', e1, e2, e3.out⟩
  obtain ⟨q, hq⟩ := Go.Deep.choose_lt each
  refine ⟨(List.range len).map q, by simp, hl, fun h0 => ?_⟩
  rw [List.length_map, List.length_range] at h0
  have hc0 := (hx 0 (by omega)).1
  obtain ⟨b0, o0, e0⟩ := plainT hc0
  rw [show x.add (0 * 2) = x by simp [Addr.add]] at e0
  subst e0
  refine ⟨b0, o0, rfl, ?_, fun j r hj => ?_⟩
  ·have := World.block_lt_of_cell? W _ hc0
   rwa [yblock_add] at this
  ·have hjl : j < len := by
    rcases Nat.lt_or_ge j len with h1 | h1
    ·exact h1
    ·rw [List.getElem?_eq_none (by simpa using h1)] at hj; cases hj
   rw [List.getElem?_map, List.getElem?_range hjl] at hj
   injection hj with hj
   subst hj
   obtain ⟨h1, A', c', h2, h3, h4⟩ := hq j hjl
   obtain ⟨g1, g2, _⟩ := hx j (by omega)
   rw [addr_plain] at g1
   rw [addr_plain] at g2
   exact ⟨A', c', by rw [g1, h1], by rw [show o0 + j * 2 + 1 = o0 + (j * 2 + 1) by omega, g2, h2], h3, h4⟩
theorem cellsRowT : Tryz.prog.cellsOf 72 = 2 := by kernel_rfl
theorem cellsIntT : Tryz.prog.cellsOf 3 = 1 := by kernel_rfl
theorem cellsSsT : Tryz.prog.cellsOf 60 = 1 := by kernel_rfl
theorem open_rowT {H : Type} {enc : TypeId × Value → H} {W : World} {r : Reach} {b0 : Nat} {v : Value} {d : DataW H} {p : List MemPlace}
 (hv : Value.okWide Tryz.prog W r b0 72 v) (h : DataW.Trod enc Tryz.prog W 0 (fun _ => true) true 72 v d p) :
 ∃ (k : Int) (A : Option Addr) (n c : Nat) (xs : List ByteArray), v = .agg #[.int .i64 k, .slice A n c] ∧ n = xs.length ∧ n ≤ c ∧ RS W W.heap.size A xs := by
 obtain ⟨cs, rfl, hs⟩ := okWide_struct Tryz.underlying72 hv
 obtain ⟨fuel, hf⟩ := h
 obtain ⟨y0, y1, n, hx, hl, h0, h1⟩ := trod_struct2 Tryz.underlying72 hf
 rw [cellsRowT] at hs
 obtain ⟨l⟩ := cs
 match l, hs with
 | [v0, v1], _ =>
   have h0' : DataW.trod enc Tryz.prog W 0 (fun _ => true) true n 3 [v0] = some y0 := by
    have e := h0
    simp only [cellsIntT] at e
    simpa [Value.cells] using e
   have h1' : DataW.trod enc Tryz.prog W 0 (fun _ => true) true n 60 [v1] = some y1 := by
    have e := h1
    simp only [cellsIntT, cellsSsT] at e
    simpa [Value.cells] using e
   obtain ⟨k, e0, _⟩ := DataW.trod_int Tryz.underlying3 h0'
   injection e0 with e0
   obtain ⟨A, c, xs, e1, h2, h3⟩ := open_ssV h1'
   subst e0; subst e1
   exact ⟨k, A, _, c, xs, rfl, rfl, h2, h3.out⟩
end Go.Proofs.YtfflmmbhpchloaaGreatDoor
end
