/- cubitref6.rowWords: the walk. Conditions: lines of at most 70000 bytes. -/
import Derived.Test.YtbmpbcnhgnmekaaDoorEr
open Go.RowKit
set_option maxRecDepth 100000
namespace Go.Proofs.YtbmpbcnhgnmekaaDoor
set_option maxHeartbeats 4000000 in
theorem rw_bad {s : ByteArray} (hb : plainB s = false) (hs : s.size ≤ 1000000) (w : World) : Calls Tryd.prog 20 #[.string s] w (RowWR w false []) := by
  have HX : Hid (RowWR w false [] (.returned (.tuple #[.slice none 0 0, .bool false])) w) := ⟨none, 0, rfl, fun _ => rfl, World.ownsRow_nil _ _ _ _, Below.refl _ _⟩
  have HB := ehide hb
  clear hb
  go_enter Tryd.func20, Tryd.ntmps20
  go_wp2
  go_loop [6] (fun iv => ∃ k : Nat, k ≤ s.size ∧ iv = .int .i64 (k : Int) ∧ Hid ((s.data.toList.take k).all plainC = true)) (fun iv => s.size - (intOf iv).toNat)
  case atStart => exact ⟨0, Nat.zero_le _, rfl, rfl⟩
  case round =>
    obtain ⟨k, hk, rfl, hall⟩ := hrel
    by_cases hlt : k < s.size
    · have HT := ehide (pl_take hlt)
      by_cases h1 : s[k].toNat < 32
      · have d1 : decide ((s[k].toNat : Int) < 32) = true := decide_eq_true (by omega)
        clear h1
        go_wp2
        go_ret2
        exact HX.out
      · have d1 : decide ((s[k].toNat : Int) < 32) = false := decide_eq_false (by omega)
        by_cases h2 : 126 < s[k].toNat
        · have d2 : decide ((126 : Int) < (s[k].toNat : Int)) = true := decide_eq_true (by omega)
          clear h1 h2
          go_wp2
          go_ret2
          exact HX.out
        · have d2 : decide ((126 : Int) < (s[k].toNat : Int)) = false := decide_eq_false (by omega)
          have HP : Hid (plainC s[k] = true) := by unfold plainC Hid; rw [decide_eq_true (show s[k].toNat ≤ 126 by omega), decide_eq_true (show 32 ≤ s[k].toNat by omega)]; rfl
          clear h1 h2
          go_wp2
          go_round
          case rel => exact ⟨k + 1, by omega, by go_num, by unfold Hid; rw [HT.out, hall.out, HP.out]; rfl⟩
          case measure => simp [intOf]; omega
    · obtain rfl : k = s.size := by omega
      have HE : plainB s = true := by
        have h3 := hall.out
        rwa [List.take_of_length_le (by rw [Lib.size_eq]; exact Nat.le_refl _)] at h3
      exact absurd (HE.symm.trans HB.out) (by decide)
theorem pl_all {s : ByteArray} (hb : plainB s = true) {k : Nat} (h : k < s.size) : 32 ≤ s[k].toNat ∧ s[k].toNat ≤ 126 := by
  have h1 := List.all_eq_true.1 hb s[k] (List.getElem_mem (l := s.data.toList) (n := k) (by simpa using h))
  unfold plainC at h1
  simpa using h1
theorem byte_eq {c : UInt8} {n : Nat} (hn : n < 256) : c = UInt8.ofNat n ↔ c.toNat = n := by
  constructor
  · rintro rfl; simp; omega
  · intro h; apply UInt8.toNat_inj.1; rw [h]; simp; omega
theorem empty_t {x : ByteArray} (h : x.data.toList = []) : x.toList.isEmpty = true := by rw [Lib.toList_data, h]; rfl
theorem empty_f {x : ByteArray} (h : ¬ x.data.toList = []) : x.toList.isEmpty = false := by
  rw [Lib.toList_data]
  cases hx : x.data.toList with
  | nil => exact absurd hx h
  | cons a l => rfl
theorem more_b {s x : ByteArray} {k : Nat} (h : k < s.size) : (x ++ s.extract k (k + 1)).data.toList = x.data.toList ++ [s[k]] ∧ (x ++ s.extract k (k + 1)).size = x.size + 1 := by
  have e : (s.extract k (k + 1)).data.toList = [s[k]] := by
    rw [Lib.extract_data, show k + 1 - k = 1 by omega, drop_at h]; rfl
  refine ⟨by rw [ByteArray.data_append, Array.toList_append, e], by rw [Lib.size_eq, ByteArray.data_append, Array.toList_append, e, List.length_append, ← Lib.size_eq]; rfl⟩
set_option maxHeartbeats 8000000 in
theorem rw_good {s : ByteArray} (hp : plainB s = true) (hs : s.size ≤ 70000) (w : World) : Calls Tryd.prog 20 #[.string s] w (RowWR w true (wordsB s)) := by
  obtain ⟨i0, hi, hz0, hz1, hz2⟩ := info_parts infoStrE
  have J0 := ehide hi; have Y0 := ehide hz0; have Y1 := ehide hz1; have Y2 := ehide hz2
  have HPL : Hid (∀ k (h : k < s.size), 32 ≤ s[k].toNat ∧ s[k].toNat ≤ 126) := fun k h => pl_all hp h
  have HG := ehide (wordsB_go s)
  clear hp hi hz0 hz1 hz2
  go_enter Tryd.func20, Tryd.ntmps20
  go_wp2
  go_loop [6] (fun iv => ∃ k : Nat, k ≤ s.size ∧ iv = .int .i64 (k : Int)) (fun iv => s.size - (intOf iv).toNat)
  case atStart => exact ⟨0, Nat.zero_le _, rfl⟩
  case round =>
    obtain ⟨k, hk, rfl⟩ := hrel
    by_cases hlt : k < s.size
    · obtain ⟨g1, g2⟩ := HPL.out k hlt
      have d1 : decide ((s[k].toNat : Int) < 32) = false := decide_eq_false (by omega)
      have d2 : decide ((126 : Int) < (s[k].toNat : Int)) = false := decide_eq_false (by omega)
      clear g1 g2
      go_wp2
      go_round
      case rel => exact ⟨k + 1, by omega, by go_num⟩
      case measure => simp [intOf]; omega
    · obtain rfl : k = s.size := by omega
      clear hlt hk
      go_wp2
      go_loopw [4, 5, 7] (fun lv sv iv wr => ∃ (k : Nat) (ws : List ByteArray) (x : ByteArray) (A : Option Addr) (cp : Nat), k ≤ s.size + 1 ∧ ws.length ≤ k ∧ x.size ≤ k ∧ iv = .int .i64 (k : Int) ∧ lv = .slice A ws.length cp ∧ sv = .string x ∧ Hid (A = none → cp = 0) ∧
        Hid (k ≤ s.size → goW (s.data.toList.drop k) ws x.data.toList = wordsB s) ∧ Hid (k = s.size + 1 → ws = wordsB s) ∧ Hid (wr.ownsRow w.heap.size 9 1 (.slice A ws.length cp) ws.length (ws.map Value.string)) ∧ Hid (Below w.heap.size w wr)) (fun _ _ iv _ => s.size + 1 - (intOf iv).toNat)
      case atStart => exact ⟨0, [], ⟨#[]⟩, none, 0, Nat.zero_le _, Nat.zero_le _, Nat.zero_le _, rfl, rfl, rfl, fun _ => rfl, fun _ => HG.out, fun h => by omega, World.ownsRow_nil _ _ _ _, Below.refl _ _⟩
      case round =>
        obtain ⟨k, ws, x, A, cp, hk, hwl, hxl, rfl, rfl, rfl, hA, hgo, hend, how, HB⟩ := hrel
        have w1' : IntKind.i64.wrap ((k : Int) + 1) = (k : Int) + 1 := IntWalk.i64_in _ (by omega)
        by_cases hlt : k < s.size
        · have dle : decide (k ≤ s.size) = true := decide_eq_true (by omega)
          by_cases h32 : s[k] = 32
          · have hc := (byte_eq (n := 32) (by decide)).1 h32
            have d1 : ((s[k].toNat : Int) != 32) = false := by rw [hc]; rfl
            have d0 : ((s[k].toNat : Int) == 32) = true := by rw [hc]; rfl
            by_cases hx : x.data.toList = []
            · have hl := empty_t hx
              have HN : Hid (goW (s.data.toList.drop (k + 1)) ws [] = wordsB s) := by
                have h1 := hgo.out (by omega)
                rwa [goW_sp hlt h32, if_pos hx] at h1
              clear hc h32 hgo hx
              go_wp2
              go_roundw
              case rel => exact ⟨k + 1, ws, ⟨#[]⟩, A, cp, by omega, by omega, Nat.zero_le _, by go_num, rfl, rfl, hA, fun _ => HN.out, fun h => by omega, how, HB⟩
              case measure => simp [intOf]; omega
            · have hl := empty_f hx
              have HN : Hid (goW (s.data.toList.drop (k + 1)) (ws ++ [x]) [] = wordsB s) := by
                have h1 := hgo.out (by omega)
                rwa [goW_sp hlt h32, if_neg hx] at h1
              clear hc h32 hgo hx
              go_wp2_with (at_builtin; refine wpList_append_own _ rfl _ _ 29 rfl w.heap.size 9 i0 (.string ByteArray.empty) 1 16 Tryd.underlying29 J0.out Y0.out Y1.out Y2.out rfl (by decide) _ _ _ rfl (how.out.alloc _) ⟨wr.heap.size, 0, none⟩ 1 1 [.string x] rfl rfl (cell_one_new _ _ _) (by simp [Value.oneCell']) (by simp only [maxLen]; omega) (by omega) (by have := HB.out.size; simp; omega) ?_; intro v' w1 hown' hgrow hnn; obtain ⟨g', cap', rfl⟩ := ownsRow_succ hown'; have HO1 := ehide hown'; have HG1 := ehide hgrow; clear hown' hgrow hnn)
              go_roundw
              case rel => exact ⟨k + 1, ws ++ [x], ⟨#[]⟩, some ⟨g', 0, none⟩, cap', by omega, by rw [List.length_append]; simp; omega, Nat.zero_le _, by go_num, by rw [List.length_append]; rfl, rfl, fun e => (by cases e), fun _ => HN.out, fun h => by omega, by unfold Hid; rw [List.length_append, List.map_append]; exact HO1.out, (HB.out.alloc HB.out.size _).grown HG1.out (by have := HB.out.size; simp; omega) (fun g e => (how.out.lt g e).1)⟩
              case measure => simp [intOf]; omega
          · have d1 : ((s[k].toNat : Int) == 32) = false := by
              rw [beq_eq_false_iff_ne]; intro e; exact h32 ((byte_eq (n := 32) (by decide)).2 (by omega))
            have d0 : ((s[k].toNat : Int) != 32) = true := by
              rw [bne_iff_ne]; intro e; exact h32 ((byte_eq (n := 32) (by decide)).2 (by omega))
            by_cases hrm : s[k] = 35 ∧ x.data.toList = []
            · have d2 : ((s[k].toNat : Int) == 35) = true := by
                rw [beq_iff_eq]; have := (byte_eq (n := 35) (by decide)).1 hrm.1; omega
              have hl := empty_t hrm.2
              have HE : Hid (ws = wordsB s) := by
                have h1 := hgo.out (by omega)
                rwa [goW_rm hlt hrm.1 hrm.2] at h1
              clear hrm h32 hgo
              go_wp2
              go_ret2
              exact ⟨A, cp, by rw [← HE.out]; rfl, hA.out, by rw [← HE.out]; exact how, HB⟩
            · have HN : Hid (goW (s.data.toList.drop (k + 1)) ws (x ++ s.extract k (k + 1)).data.toList = wordsB s) := by
                have h1 := hgo.out (by omega)
                rw [goW_ch hlt h32 hrm] at h1
                rw [(more_b hlt).1]; exact h1
              have HZ := ehide (more_b (x := x) hlt).2
              have c3 : (k : Int) ≤ (k : Int) + 1 := by omega
              have c4 : (k : Int) + 1 ≤ (s.size : Int) := by omega
              have c5 : ¬ 9223372036854775807 < x.size + (s.extract k (k + 1)).size := by rw [ByteArray.size_extract]; omega
              by_cases h35 : s[k] = 35
              · have d2 : ((s[k].toNat : Int) == 35) = true := by
                  rw [beq_iff_eq]; have := (byte_eq (n := 35) (by decide)).1 h35; omega
                have hl := empty_f (fun e => hrm ⟨h35, e⟩)
                clear hrm h32 h35 hgo
                go_wp2
                go_roundw
                case rel => exact ⟨k + 1, ws, x ++ s.extract k (k + 1), A, cp, by omega, by omega, by have := HZ.out; omega, by go_num, rfl, rfl, hA, fun _ => HN.out, fun h => by omega, how, HB⟩
                case measure => simp [intOf]; omega
              · have d2 : ((s[k].toNat : Int) == 35) = false := by
                  rw [beq_eq_false_iff_ne]; intro e; exact h35 ((byte_eq (n := 35) (by decide)).2 (by omega))
                clear hrm h32 h35 hgo
                go_wp2
                go_roundw
                case rel => exact ⟨k + 1, ws, x ++ s.extract k (k + 1), A, cp, by omega, by omega, by have := HZ.out; omega, by go_num, rfl, rfl, hA, fun _ => HN.out, fun h => by omega, how, HB⟩
                case measure => simp [intOf]; omega
        · by_cases hke : k = s.size
          · have dle : decide (k ≤ s.size) = true := decide_eq_true (by omega)
            have dlt : decide (k < s.size) = false := decide_eq_false (by omega)
            by_cases hx : x.data.toList = []
            · have hl := empty_t hx
              have HE : Hid (ws = wordsB s) := by
                have h1 := hgo.out (by omega)
                rwa [goW_end hke, if_pos hx] at h1
              clear hgo hx
              go_wp2
              go_roundw
              case rel => exact ⟨k + 1, ws, ⟨#[]⟩, A, cp, by omega, by omega, Nat.zero_le _, by go_num, rfl, rfl, hA, fun h => by omega, fun _ => HE.out, how, HB⟩
              case measure => simp [intOf]; omega
            · have hl := empty_f hx
              have HE : Hid (ws ++ [x] = wordsB s) := by
                have h1 := hgo.out (by omega)
                rwa [goW_end hke, if_neg hx] at h1
              clear hgo hx
              go_wp2_with (at_builtin; refine wpList_append_own _ rfl _ _ 29 rfl w.heap.size 9 i0 (.string ByteArray.empty) 1 16 Tryd.underlying29 J0.out Y0.out Y1.out Y2.out rfl (by decide) _ _ _ rfl (how.out.alloc _) ⟨wr.heap.size, 0, none⟩ 1 1 [.string x] rfl rfl (cell_one_new _ _ _) (by simp [Value.oneCell']) (by simp only [maxLen]; omega) (by omega) (by have := HB.out.size; simp; omega) ?_; intro v' w1 hown' hgrow hnn; obtain ⟨g', cap', rfl⟩ := ownsRow_succ hown'; have HO1 := ehide hown'; have HG1 := ehide hgrow; clear hown' hgrow hnn)
              go_roundw
              case rel => exact ⟨k + 1, ws ++ [x], ⟨#[]⟩, some ⟨g', 0, none⟩, cap', by omega, by rw [List.length_append]; simp; omega, Nat.zero_le _, by go_num, by rw [List.length_append]; rfl, rfl, fun e => (by cases e), fun h => by omega, fun _ => HE.out, by unfold Hid; rw [List.length_append, List.map_append]; exact HO1.out, (HB.out.alloc HB.out.size _).grown HG1.out (by have := HB.out.size; simp; omega) (fun g e => (how.out.lt g e).1)⟩
              case measure => simp [intOf]; omega
          · obtain rfl : k = s.size + 1 := by omega
            have dle : decide (s.size + 1 ≤ s.size) = false := decide_eq_false (by omega)
            have HE := ehide (hend.out rfl)
            go_wp2
            go_ret2
            exact ⟨A, cp, by rw [← HE.out]; rfl, hA.out, by rw [← HE.out]; exact how, HB⟩
theorem rw_any {s : ByteArray} (hs : s.size ≤ 70000) (w : World) : Calls Tryd.prog 20 #[.string s] w (RowWR w (plainB s) (if plainB s = true then wordsB s else [])) := by
  by_cases h : plainB s = true
  · rw [if_pos h, h]; exact rw_good h hs w
  · have h' : plainB s = false := by simpa using h
    rw [if_neg h, h']; exact rw_bad h' (by omega) w
end Go.Proofs.YtbmpbcnhgnmekaaDoor
