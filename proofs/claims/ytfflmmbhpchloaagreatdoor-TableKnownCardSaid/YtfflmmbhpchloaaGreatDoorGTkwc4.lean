/- Each theorem here says its own conditions. -/
import Derived.Test.YtfflmmbhpchloaaGreatDoorGTkwc3
import Derived.Laws.StructEq
import Derived.Lib.MinMaxS
set_option maxRecDepth 100000
set_option maxHeartbeats 16000000
section
open Go.RowKit
namespace Go.Proofs.YtfflmmbhpchloaaGreatDoor
def eB : ByteArray := ⟨#[]⟩
structure PA where
 p : ByteArray
 n : ByteArray
 k : Nat
 t : Nat
 ok : Bool
def noPA : PA := ⟨eB, eB, 0, 0, false⟩
def parseU (names ps : List ByteArray) (k t : Nat) (u : ByteArray) : PA := if (sizeP names ps u).2 then ⟨u.extract 0 (sizeP names ps u).1, restB u (sizeP names ps u).1, k, t + 1, true⟩ else noPA
def parseA (names ps l : List ByteArray) : PA :=
 match l[(leadP l).2]? with
 | none => noPA
 | some u => parseU names ps (leadP l).1 (leadP l).2 u
theorem leadP_le (l : List ByteArray) : (leadP l).2 ≤ l.length ∧ (leadP l).2 ≤ 1 := by
 cases l with
 | nil => exact ⟨Nat.le_refl _, by decide⟩
 | cons s l =>
   by_cases h : powOf s = 0
   ·have e : leadP (s :: l) = (1, 0) := if_pos h
    rw [e]; simp
   ·have e : leadP (s :: l) = (powOf s, 1) := if_neg h
    rw [e]; simp
theorem sizeP_le (names ps : List ByteArray) (u : ByteArray) : (sizeP names ps u).1 ≤ u.size := by
 unfold sizeP
 split
 ·simp
 ·have := lpB_le (names := names) (u := u) ps ps.length (Nat.le_refl _)
  rwa [List.take_length] at this
def PRes (W : World) (a : PA) (e : Ending) (w' : World) : Prop := e = .returned (.tuple #[.agg #[.string a.p, .string a.n, .int .i64 (a.k : Int)], .int .i64 (a.t : Int), .bool a.ok]) ∧ Bel W w'
theorem kbelow3 {W w2 : World} {p : Nat} (h : Bel W w2) (hp : W.heap.size ≤ p) (x y z : Value) : Bel W (((w2.setCell ⟨p, 0, none⟩ x).setCell ⟨p, 1, none⟩ y).setCell ⟨p, 2, none⟩ z) :=
 ((Below.setCell h hp _).setCell hp _).setCell hp _
theorem parse_any {A B D : Option Addr} {n c m d j g : Nat} {names ps l : List ByteArray} {w : World} (h : Ss w A names) (hn : n = names.length) (hl : n ≤ 1000000) (h' : Ss w B ps) (hm : m = ps.length) (hl' : m ≤ 1000000) (h2 : Ss w D l) (hj : j = l.length) (hu : ∀ x ∈ l, x.size ≤ 140737488355328) :
 Calls Tryz.prog 140 #[.agg #[.slice A n c, .slice B m d], .slice D j g] w (PRes w (parseA names ps l)) := by
 obtain ⟨pw, hpw⟩ : ∃ x, (leadP l).1 = x := ⟨_, rfl⟩
 obtain ⟨tk, htk⟩ : ∃ x, (leadP l).2 = x := ⟨_, rfl⟩
 have CL : Hid (∀ W, Bel w W → Calls Tryz.prog 192 #[.slice D j g] W (RetII W (pw : Int) (tk : Int))) := fun W hb => by rw [← hpw, ← htk]; exact lead_any (h2.up hb.hid) hj
 have hle := leadP_le l
 rw [htk] at hle
 have HV : Hid (parseA names ps l = match l[tk]? with | none => noPA | some u => parseU names ps pw tk u) := by unfold Hid parseA; rw [hpw, htk]
 obtain ⟨W1, hW1⟩ : ∃ X, X = (w.alloc (.cells #[.slice A n c, .slice B m d] 62)).alloc (.cells #[.string ⟨#[]⟩, .string ⟨#[]⟩, .int .i64 0] 96) := ⟨_, rfl⟩
 have HA : At W1 w.heap.size [.slice A n c, .slice B m d] := by rw [hW1]; exact (at_new0 _ _ _).al _
 have HR : At W1 (w.heap.size + 1) [.string ⟨#[]⟩, .string ⟨#[]⟩, .int .i64 0] := by rw [hW1]; exact at_new1 _ _ _ _
 have HB : Bel w W1 := by rw [hW1]; exact ((Bel.refl w).al _).al _
 have HW := khide hW1
 have HN := khide hn
 have HM := khide hm
 have HJ := khide hj
 clear hW1 hpw htk hn hm
 go_enter Tryz.func140, Tryz.ntmps140
 go_upto_region 1 with fail
 rw [← HW.out]
 obtain ⟨p, hp⟩ : ∃ p, p = w.heap.size := ⟨_, rfl⟩
 obtain ⟨q, hq⟩ : ∃ p, p = w.heap.size + 1 := ⟨_, rfl⟩
 have HQ : Hid (w.heap.size ≤ q) := by unfold Hid; omega
 rw [← hp] at HA
 rw [← hq] at HR
 rw [← hq, ← hp]
 clear HW hp hq
 by_cases he : tk = j
 ·have d1 : ((tk : Int) == (j : Int)) = true := by rw [beq_iff_eq]; omega
  have HV2 : Hid (parseA names ps l = noPA) := by unfold Hid; rw [HV.out, List.getElem?_eq_none (by omega)]
  have HE := khide he
  clear he hle hu HV hj
  go_upto_region 2 with (first | (go_at_call 192; (with_reducible refine (CL.out _ HB).mono ?_); rintro e w1 ⟨rfl, hb⟩; (replace HA := HA.up hb.hid); (replace HR := HR.up hb.hid); (replace HB := HB.up hb.hid); clear hb) | fail)
  have hr_0 := HR.c0; have hr_1 := HR.c1; have hr_2 := HR.c2; have hr_l := HR.lt; have hr_f0 := HR.f0; have hr_f1 := HR.f1; have hr_f2 := HR.f2
  go_wp2_with fail
  refine bodyPost_ret (v := .tuple #[.agg #[.string ⟨#[]⟩, .string ⟨#[]⟩, .int .i64 0], .int .i64 0, .bool false]) (by simp [results, Tryz.results140, go_sem, hr_0, hr_1, hr_2]) rfl ⟨?_, ?_⟩
  ·rw [HV2.out]; rfl
  ·exact kbelow3 HB HQ.out _ _ _
 ·have d1 : ((tk : Int) == (j : Int)) = false := by rw [beq_eq_false_iff_ne]; omega
  have hk : tk < l.length := by omega
  obtain ⟨u, hu2⟩ : ∃ u, u = l[tk] := ⟨_, rfl⟩
  have huz : Hid (u.size ≤ 140737488355328) := hu u (by rw [hu2]; exact List.getElem_mem hk)
  obtain ⟨sz, hsz⟩ : ∃ x, (sizeP names ps u).1 = x := ⟨_, rfl⟩
  obtain ⟨ok, hok⟩ : ∃ x, (sizeP names ps u).2 = x := ⟨_, rfl⟩
  have CP : Hid (∀ W, Bel w W → Calls Tryz.prog 193 #[.agg #[.slice A n c, .slice B m d], .string u] W (RetIB W (sz : Int) ok)) := fun W hb => by rw [← hsz, ← hok]; exact prefixSize_any (h.up hb.hid) HN.out hl (h'.up hb.hid) HM.out hl' huz.out
  have hle2 : sz ≤ u.size := by rw [← hsz]; exact sizeP_le names ps u
  have HV2 : Hid (parseA names ps l = if ok then ⟨u.extract 0 sz, restB u sz, pw, tk + 1, true⟩ else noPA) := by
   unfold Hid
   rw [HV.out, List.getElem?_eq_getElem hk, ← hu2]
   show parseU names ps pw tk u = _
   unfold parseU; rw [hsz, hok]
  obtain ⟨ad, rfl, had, hcell⟩ := h2.out.at_ hk
  rw [← hu2] at hcell
  have t1 : (tk : Int) < (j : Int) := by omega
  have t2 : (0 : Int) ≤ (tk : Int) := by omega
  have HT1 : Hid (tk ≤ 1) := hle.2
  have s1 : (sz : Int) ≤ (u.size : Int) := by omega
  have s2 : (0 : Int) ≤ (sz : Int) := by omega
  have hC : Hid (∀ W', Bel w W' → W'.cell? (ad.add tk) = some (.string u)) := fun W' hb => (hb.cell (by rw [yblock_add]; exact had)).trans hcell
  clear hcell had hu2 hu hle HV hj he hk hsz hok
  go_upto_region 4 with (first | (go_at_call 192; (with_reducible refine (CL.out _ HB).mono ?_); rintro e w1 ⟨rfl, hb⟩; (replace HA := HA.up hb.hid); (replace HR := HR.up hb.hid); (replace HB := HB.up hb.hid); clear hb) | fail)
  have hcell := hC.out _ HB
  have ha_0 := HA.c0; have ha_1 := HA.c1; have ha_l := HA.lt
  cases ok with
  | false =>
    go_upto_region 7 with (first | (go_at_call 193; (with_reducible refine (CP.out _ HB).mono ?_); rintro e w2 ⟨rfl, hb⟩; (replace HA := HA.up hb.hid); (replace HR := HR.up hb.hid); (replace HB := HB.up hb.hid); clear hb hcell ha_0 ha_1 ha_l) | fail)
    have hr_0 := HR.c0; have hr_1 := HR.c1; have hr_2 := HR.c2; have hr_l := HR.lt; have hr_f0 := HR.f0; have hr_f1 := HR.f1; have hr_f2 := HR.f2
    go_wp2_with fail
    refine bodyPost_ret (v := .tuple #[.agg #[.string ⟨#[]⟩, .string ⟨#[]⟩, .int .i64 0], .int .i64 0, .bool false]) (by simp [results, Tryz.results140, go_sem, hr_0, hr_1, hr_2]) rfl ⟨?_, kbelow3 HB HQ.out _ _ _⟩
    rw [HV2.out]; rfl
  | true =>
    go_upto_region 8 with (first | (go_at_call 193; (with_reducible refine (CP.out _ HB).mono ?_); rintro e w2 ⟨rfl, hb⟩; (replace HA := HA.up hb.hid); (replace HR := HR.up hb.hid); (replace HB := HB.up hb.hid); clear hb hcell ha_0 ha_1 ha_l) | fail)
    have hr_0 := HR.c0; have hr_1 := HR.c1; have hr_2 := HR.c2; have hr_l := HR.lt; have hr_f0 := HR.f0; have hr_f1 := HR.f1; have hr_f2 := HR.f2
    go_region
    all_goals go_wp2_with fail
    have e9 : wrap64 ((tk : Int) + 1) = (tk : Int) + 1 := by have := HT1.out; unfold wrap64; omega
    all_goals refine bodyPost_ret (v := .tuple #[.agg #[.string (u.extract 0 sz), .string (u.extract sz u.size), .int .i64 (pw : Int)], .int .i64 ((tk : Int) + 1), .bool true]) (by simp [results, Tryz.results140, go_sem, hr_0, hr_1, hr_2, e9]) rfl ⟨?_, (kbelow3 HB HQ.out _ _ _).dr⟩
    all_goals (rw [HV2.out]; rfl)
def joinS (xs : List ByteArray) : ByteArray := ⟨(glue 45 (xs.map (·.data.toList))).toArray⟩
def StrR (W : World) (s : ByteArray) (e : Ending) (w' : World) : Prop := e = .returned (.string s) ∧ Hid (Below W.heap.size W w')
theorem plain_of {w : World} {ad : Addr} {v : Value} (h : w.cell? ad = some v) : ∃ b o, ad = ⟨b, o, none⟩ := by
 obtain ⟨b, o, sp⟩ := ad
 cases sp with
 | none => exact ⟨b, o, rfl⟩
 | some k =>
   unfold World.cell? at h
   split at h
   ·simp at h
   ·cases h
theorem sjoin_any {w : World} {A : Option Addr} {n c : Nat} {xs : List ByteArray} (h : Ss w A xs) (hn : n = xs.length) (hc : n ≤ c) (hN : n ≤ 1000000) (hl : (glue 45 (xs.map (·.data.toList))).length ≤ 140737488355328) :
 Calls Tryz.prog 38 #[.slice A n c, .string ⟨#[45]⟩] w (StrR w (joinS xs)) := by
 subst hn
 cases xs with
 | nil =>
   refine (Tryz.strings_Join_none A c ⟨#[45]⟩ w).mono fun e w' ⟨he, hw⟩ => ⟨by rw [he]; rfl, by rw [hw]; exact Below.refl _ _⟩
 | cons x xs =>
   obtain ⟨ad, rfl, hb, hcell⟩ := h.out (by simp)
   have h0 := hcell 0 x rfl
   obtain ⟨b, o, hbo⟩ := plain_of h0
   rw [show ad.add 0 = ad by simp [Addr.add]] at hbo
   subst hbo
   have hcl : ∀ (j : Nat) y, (x :: xs)[j]? = some y → w.cell? ⟨b, o + j, none⟩ = some (.string y) := fun j y hj => by
    have h1 := hcell j y hj
    have e : (⟨b, o, none⟩ : Addr).add j = ⟨b, o + j, none⟩ := by unfold Addr.add; split <;> simp_all
    rwa [e] at h1
   have c1 := Tryz.strings_Join b o c (x :: xs) ⟨#[45]⟩ w hcl hb (by omega) hc (by rw [show (⟨#[45]⟩ : ByteArray).data.toList = [45] from rfl, join_glue]; exact hl)
   refine c1.mono fun e w' ⟨he, hw⟩ => ⟨?_, hw⟩
   rw [he, show (⟨#[45]⟩ : ByteArray).data.toList = [45] from rfl, join_glue]; rfl
theorem wjoin_any {w : World} {A : Option Addr} {n c : Nat} {xs : List ByteArray} (h : Ss w A xs) (hn : n = xs.length) (hc : n ≤ c) (hN : n ≤ 1000000) (hl : (glue 45 (xs.map (·.data.toList))).length ≤ 140737488355328) :
 Calls Tryz.prog 31 #[.slice A n c] w (StrR w (joinS xs)) := by
 have CJ := yhide (sjoin_any h hn hc hN hl)
 clear h hn hc hN hl
 obtain ⟨t, ht⟩ : ∃ t, t = joinS xs := ⟨_, rfl⟩
 rw [← ht] at CJ ⊢
 clear ht
 go_enter Tryz.func31, Tryz.ntmps31
 go_wp2_with (first | (go_at_call 38; (with_reducible refine CJ.out.mono ?_); rintro e w1 ⟨rfl, hbk⟩) | fail)
 go_ret
 exact ⟨rfl, hbk⟩
def showB (p n : ByteArray) (k : Int) : ByteArray := if k < 1 ∨ 15 < k then eB else if k = 1 then p ++ n else joinS [pwB k.toNat, p ++ n]
theorem lit_ssk (W : World) (xs : List ByteArray) (t : TypeId) : Ss (W.alloc (.cells (xs.map Value.string).toArray t)) (some ⟨W.heap.size, 0, none⟩) xs := fun _ =>
 ⟨⟨W.heap.size, 0, none⟩, rfl, (at_new0 W (xs.map Value.string) t).lt, fun j x hj => by
   rw [show (⟨W.heap.size, 0, none⟩ : Addr).add j = ⟨W.heap.size, j, none⟩ by unfold Addr.add; split <;> simp_all]
   exact (at_new0 W (xs.map Value.string) t).ci (by rw [List.getElem?_map, hj]; rfl)⟩
theorem glue_two (a b : ByteArray) : (glue 45 ([a, b].map (·.data.toList))).length = a.size + b.size + 1 := by
 simp only [List.map_cons, List.map_nil, glue, List.length_append, List.length_cons, Lib.size_eq]; omega
theorem show_any {p n : ByteArray} {k : Int} (hs : p.size + n.size ≤ 140737488355000) (w : World) : Calls Tryz.prog 99 #[.agg #[.string p, .string n, .int .i64 k]] w (StrR w (showB p n k)) := by
 have hs1 : ¬ 9223372036854775807 < p.size + n.size := by omega
 have hs2 : p.size + n.size ≤ 9223372036854775807 := by omega
 obtain ⟨u, hu⟩ : ∃ u, u = p ++ n := ⟨_, rfl⟩
 have huz : u.size = p.size + n.size := by rw [hu, ByteArray.size_append]
 obtain ⟨W1, hW1⟩ : ∃ X, X = w.alloc (.cells #[.string p, .string n, .int .i64 k] 96) := ⟨_, rfl⟩
 have HA : At W1 w.heap.size [.string p, .string n, .int .i64 k] := by rw [hW1]; exact at_new0 _ _ _
 have HB : Bel w W1 := by rw [hW1]; exact (Bel.refl w).al _
 have HW := khide hW1
 have ha_0 := HA.c0; have ha_1 := HA.c1; have ha_2 := HA.c2; have ha_l := HA.lt
 by_cases h1 : k < 1
 ·have d1 : decide (k < 1) = true := decide_eq_true h1
  have HV : Hid (showB p n k = eB) := if_pos (.inl h1)
  clear h1 hW1 hu huz
  go_enter Tryz.func99, Tryz.ntmps99
  go_upto_region 1 with fail
  rw [← HW.out]
  go_wp2
  go_ret
  exact ⟨by rw [HV.out]; rfl, HB⟩
 by_cases h2 : 15 < k
 ·have d1 : decide (k < 1) = false := decide_eq_false h1
  have d2 : decide (15 < k) = true := decide_eq_true h2
  have HV : Hid (showB p n k = eB) := if_pos (.inr h2)
  clear h1 h2 hW1 hu huz
  go_enter Tryz.func99, Tryz.ntmps99
  go_upto_region 1 with fail
  rw [← HW.out]
  go_wp2
  go_ret
  exact ⟨by rw [HV.out]; rfl, HB⟩
 have d1 : decide (k < 1) = false := decide_eq_false h1
 have d2 : decide (15 < k) = false := decide_eq_false h2
 by_cases h3 : k = 1
 ·have d3 : (k == 1) = true := by rw [h3]; rfl
  have HV : Hid (showB p n k = p ++ n) := by unfold Hid showB; rw [if_neg (by omega), if_pos h3]
  clear h1 h2 h3 hW1 hu huz
  go_enter Tryz.func99, Tryz.ntmps99
  go_upto_region 1 with fail
  rw [← HW.out]
  go_wp2
  go_ret
  exact ⟨by rw [HV.out]; rfl, HB⟩
 ·obtain ⟨j, rfl⟩ : ∃ j : Nat, k = (j : Int) := ⟨k.toNat, by omega⟩
  have d3 : ((j : Int) == 1) = false := beq_eq_false_iff_ne.2 h3
  have hj2 : 2 ≤ j := by omega
  have hj16 : j < 16 := by omega
  obtain ⟨t, ht⟩ : ∃ t, pwB j = t := ⟨_, rfl⟩
  have CW : Hid (∀ W : World, Calls Tryz.prog 143 #[.int .i64 (j : Int)] W fun e w' => e = .returned (.string t) ∧ W = w') := fun W => ht ▸ powerWord_any hj2 hj16 W
  have htz : t.size ≤ 6 := by rw [← ht]; exact pwB_size j hj16 hj2
  have HV : Hid (showB p n (j : Int) = joinS [t, u]) := by
   unfold Hid showB
   rw [if_neg (by omega), if_neg h3, Int.toNat_natCast, ht, hu]
  have CJ : Hid (∀ W : World, Calls Tryz.prog 31 #[.slice (some ⟨W.heap.size, 0, none⟩) 2 2] (W.alloc (.cells #[.string t, .string u] 9)) (StrR (W.alloc (.cells #[.string t, .string u] 9)) (joinS [t, u]))) := fun W =>
   wjoin_any (lit_ssk W [t, u] 9) rfl (by omega) (by omega) (by rw [glue_two]; omega)
  have huv := khide hu
  clear h1 h2 h3 hW1 ht huz hj2 hj16 htz
  go_enter Tryz.func99, Tryz.ntmps99
  go_upto_region 1 with fail
  rw [← HW.out]
  go_upto_region 4 with fail
  rw [← hu]
  clear hu
  go_wp2_with (first | (go_at_call 143; (with_reducible refine (CW.out _).mono ?_); rintro e w1 ⟨rfl, rfl⟩) | (go_at_call 31; (with_reducible refine (CJ.out _).mono ?_); rintro e w2 ⟨rfl, hb⟩) | fail)
  go_ret
  exact ⟨by rw [HV.out]; rfl, (HB.al _).up hb⟩


section
variable {p1 n1 p2 n2 p3 n3 : ByteArray} {k1 k2 k3 : Int}
end
theorem cut_join (u : ByteArray) (k : Nat) (h : k ≤ u.size) : u.extract 0 k ++ restB u k = u := by
 apply ByteArray.ext
 apply Array.ext'
 unfold restB
 rw [ByteArray.data_append, Array.toList_append, ByteArray.data_extract, ByteArray.data_extract, Array.toList_extract, Array.toList_extract]
 simp only [List.extract, List.drop_zero, Nat.sub_zero]
 rw [List.take_of_length_le (l := List.drop k u.data.toList) (by rw [List.length_drop, Lib.size_eq]; omega), List.take_append_drop]
theorem join_two (a b : ByteArray) : joinS [a, b] = a ++ ⟨#[45]⟩ ++ b := by
 apply ByteArray.ext
 apply Array.ext'
 show glue 45 [a.data.toList, b.data.toList] = _
 rw [ByteArray.data_append, Array.toList_append, ByteArray.data_append, Array.toList_append]
 simp [glue]
theorem leadP_form (l : List ByteArray) : leadP l = (1, 0) ∨ ∃ s r, l = s :: r ∧ leadP l = (powOf s, 1) ∧ 2 ≤ powOf s ∧ powOf s < 16 ∧ s = pwB (powOf s) := by
 cases l with
 | nil => exact .inl rfl
 | cons s r =>
   by_cases h : powOf s = 0
   ·exact .inl (if_pos h)
   ·rcases powOf_is s with h1 | ⟨h1, h2, h3⟩
    ·exact absurd h1 h
    ·exact .inr ⟨s, r, rfl, if_neg h, h1, h2, h3⟩
end Go.Proofs.YtfflmmbhpchloaaGreatDoor
end
section
namespace Go.Proofs.YtfflmmbhpchloaaGreatDoor
def val (b : Nat) : List Nat → Nat
 | [] => 0
 | x :: xs => x + b * val b xs
def digs (b n : Nat) : List Nat := if _h : n = 0 ∨ b < 2 then [] else n % b :: digs b (n / b)
termination_by n
decreasing_by exact Nat.div_lt_self (by omega) (by omega)
theorem digs_zero (b : Nat) : digs b 0 = [] := by rw [digs]; simp
theorem digs_pos {b n : Nat} (hb : 2 ≤ b) (hn : 0 < n) : digs b n = n % b :: digs b (n / b) := by rw [digs, dif_neg (by omega)]
theorem val_digs {b : Nat} (hb : 2 ≤ b) (n : Nat) : val b (digs b n) = n := by
 induction n using Nat.strongRecOn with
 | _ n ih =>
   by_cases hn : n = 0
   ·subst hn; rw [digs_zero]; rfl
   ·rw [digs_pos hb (by omega), val, ih _ (Nat.div_lt_self (by omega) (by omega))]; exact Nat.mod_add_div n b
theorem digs_lt {b : Nat} (hb : 2 ≤ b) (n : Nat) : ∀ x ∈ digs b n, x < b := by
 induction n using Nat.strongRecOn with
 | _ n ih =>
   by_cases hn : n = 0
   ·subst hn; rw [digs_zero]; simp
   ·rw [digs_pos hb (by omega)]
    intro x hx
    rcases List.mem_cons.1 hx with rfl | hx
    ·exact Nat.mod_lt _ (by omega)
    ·exact ih _ (Nat.div_lt_self (by omega) (by omega)) x hx
theorem val_append (b : Nat) (xs ys : List Nat) : val b (xs ++ ys) = val b xs + b ^ xs.length * val b ys := by
 induction xs with
 | nil => simp [val]
 | cons x xs ih => simp only [List.cons_append, val, ih, List.length_cons, Nat.pow_succ, Nat.mul_add]; rw [Nat.mul_comm (b ^ xs.length) b, Nat.mul_assoc, Nat.add_assoc]
theorem val_snoc (b : Nat) (xs : List Nat) (y : Nat) : val b (xs ++ [y]) = val b xs + b ^ xs.length * y := by rw [val_append]; simp [val]
theorem val_lt {b : Nat} (xs : List Nat) (h : ∀ x ∈ xs, x < b) : val b xs < b ^ xs.length := by
 induction xs with
 | nil => simp [val]
 | cons x xs ih =>
   have h1 := h x (by simp)
   have h2 := ih fun y hy => h y (by simp [hy])
   simp only [val, List.length_cons, Nat.pow_succ]
   have h3 : b * (val b xs + 1) ≤ b * b ^ xs.length := Nat.mul_le_mul_left _ h2
   rw [Nat.mul_comm (b ^ xs.length) b]; rw [Nat.mul_add] at h3; omega
theorem digs_val {b : Nat} (hb : 2 ≤ b) (l : List Nat) (h : ∀ x ∈ l, x < b) (hl : ∀ x, l.getLast? = some x → x ≠ 0) : digs b (val b l) = l := by
 induction l with
 | nil => exact digs_zero b
 | cons x xs ih =>
   have hx := h x (by simp)
   have hv : 0 < val b (x :: xs) := by
    simp only [val]
    cases xs with
    | nil => have := hl x rfl; simp [val]; omega
    | cons y ys =>
      have e := ih (fun z hz => h z (by simp [hz])) (fun z hz => hl z (by rw [List.getLast?_cons_cons]; exact hz))
      have : 0 < val b (y :: ys) := by
       rcases Nat.eq_zero_or_pos (val b (y :: ys)) with h0 | h0
       ·rw [h0, digs_zero] at e; simp at e
       ·exact h0
      have := Nat.mul_pos (show 0 < b by omega) this
      omega
   rw [digs_pos hb hv]
   simp only [val]
   rw [Nat.add_mul_mod_self_left, Nat.mod_eq_of_lt hx, Nat.add_mul_div_left _ _ (by omega), Nat.div_eq_of_lt hx, Nat.zero_add]
   cases xs with
   | nil => simp [val, digs_zero]
   | cons y ys => rw [ih (fun z hz => h z (by simp [hz])) (fun z hz => hl z (by rw [List.getLast?_cons_cons]; exact hz))]
theorem val_zeros (b k : Nat) : val b (List.replicate k 0) = 0 := by
 induction k with
 | zero => rfl
 | succ k ih => simp [List.replicate_succ, val, ih]
theorem zeros_of {l : List Nat} (h : ∀ j : Nat, l[j]?.getD 0 = 0) : l = List.replicate l.length 0 := by
 apply List.ext_getElem (by simp)
 intro i h1 h2
 have := h i
 rw [List.getElem?_eq_getElem h1] at this
 simpa using this
theorem val_take_zeros (b : Nat) (l : List Nat) (k : Nat) (h : ∀ j : Nat, k ≤ j → l[j]?.getD 0 = 0) : val b (l.take k) = val b l := by
 have e : val b l = val b (l.take k ++ l.drop k) := by rw [List.take_append_drop]
 rw [e, val_append, zeros_of (l := l.drop k) (fun j => by rw [List.getElem?_drop]; exact h _ (by omega)), val_zeros]; simp
theorem trim_eq {b : Nat} (hb : 2 ≤ b) (l : List Nat) (k : Nat) (h : ∀ x ∈ l, x < b) (hk : k ≤ l.length) (hz : ∀ j : Nat, k ≤ j → l[j]?.getD 0 = 0) (hl : 0 < k → l[k - 1]?.getD 0 ≠ 0) : l.take k = digs b (val b l) := by
 rw [← val_take_zeros b l k hz, digs_val hb _ (fun x hx => h x (List.mem_of_mem_take hx))]
 intro x hx
 rw [List.getLast?_eq_getElem?, List.length_take, Nat.min_eq_left hk] at hx
 rcases Nat.eq_zero_or_pos k with rfl | h0
 ·simp at hx
 ·rw [List.getElem?_take, if_pos (by omega)] at hx
  have := hl h0
  rw [hx] at this
  simpa using this
theorem digs_len_le {b : Nat} (hb : 2 ≤ b) (l : List Nat) (h : ∀ x ∈ l, x < b) : (digs b (val b l)).length ≤ l.length := by
 induction l with
 | nil => simp [val, digs_zero]
 | cons x xs ih =>
   have hx := h x (by simp)
   have h1 := ih fun y hy => h y (by simp [hy])
   rcases Nat.eq_zero_or_pos (val b (x :: xs)) with h0 | h0
   ·rw [h0, digs_zero]; simp
   ·rw [digs_pos hb h0]
    simp only [val]
    rw [Nat.add_mul_div_left _ _ (by omega), Nat.div_eq_of_lt hx, Nat.zero_add]
    simp; exact h1
theorem digs_last {b : Nat} (hb : 2 ≤ b) (n : Nat) : ∀ x, (digs b n).getLast? = some x → x ≠ 0 := by
 induction n using Nat.strongRecOn with
 | _ n ih =>
   intro x hx
   by_cases hn : n = 0
   ·subst hn; rw [digs_zero] at hx; simp at hx
   ·rw [digs_pos hb (by omega)] at hx
    by_cases hz : n / b = 0
    ·rw [hz, digs_zero] at hx
     simp at hx
     have := Nat.mod_add_div n b
     rw [hz] at this
     omega
    ·rw [digs_pos hb (Nat.pos_of_ne_zero hz), List.getLast?_cons_cons, ← digs_pos hb (Nat.pos_of_ne_zero hz)] at hx
     exact ih _ (Nat.div_lt_self (by omega) (by omega)) x hx
theorem digs_len_pos {b n : Nat} (hb : 2 ≤ b) : (digs b n).length = 0 ↔ n = 0 := by
 constructor
 ·intro h
  have := val_digs hb n
  rw [List.eq_nil_of_length_eq_zero h] at this
  exact this.symm
 ·rintro rfl; rw [digs_zero]; rfl
theorem pow_le_of_digs {b n : Nat} (hb : 2 ≤ b) (hn : 0 < n) : b ^ ((digs b n).length - 1) ≤ n := by
 induction n using Nat.strongRecOn with
 | _ n ih =>
   rw [digs_pos hb hn]
   simp only [List.length_cons, Nat.add_sub_cancel]
   by_cases hz : n / b = 0
   ·rw [hz, digs_zero]; simp; omega
   ·have h1 := ih _ (Nat.div_lt_self (by omega) (by omega)) (Nat.pos_of_ne_zero hz)
    have h2 : (digs b (n / b)).length ≠ 0 := fun h => hz ((digs_len_pos hb).1 h)
    obtain ⟨m, hm⟩ : ∃ m, (digs b (n / b)).length = m + 1 := ⟨_, (Nat.sub_add_cancel (by omega)).symm⟩
    rw [hm] at h1 ⊢
    rw [Nat.pow_succ]
    exact Nat.le_trans (Nat.mul_le_mul_right _ h1) (Nat.div_mul_le_self n b)
theorem lt_pow_digs {b : Nat} (hb : 2 ≤ b) (n : Nat) : n < b ^ (digs b n).length := by
 have := val_lt (digs b n) (digs_lt hb n)
 rwa [val_digs hb] at this
theorem digs_len_lt {b m n : Nat} (hb : 2 ≤ b) (h : (digs b m).length < (digs b n).length) : m < n := by
 have h1 := lt_pow_digs hb m
 have h2 : 0 < n := by
  rcases Nat.eq_zero_or_pos n with rfl | h2
  ·rw [digs_zero] at h; simp at h
  ·exact h2
 have h3 := pow_le_of_digs hb h2
 have h4 : b ^ (digs b m).length ≤ b ^ ((digs b n).length - 1) := Nat.pow_le_pow_right (by omega) (by omega)
 omega
theorem digs_len_mono {b m n : Nat} (hb : 2 ≤ b) (h : m ≤ n) : (digs b m).length ≤ (digs b n).length := by
 rcases Nat.lt_or_ge (digs b n).length (digs b m).length with h1 | h1
 ·have := digs_len_lt hb h1; omega
 ·exact h1
theorem digs_inj {b m n : Nat} (hb : 2 ≤ b) (h : digs b m = digs b n) : m = n := by rw [← val_digs hb m, h, val_digs hb]
theorem val_cmp {b : Nat} (l m : List Nat) (i : Nat) (hl : ∀ x ∈ l, x < b) (hlen : l.length = m.length) (hi : i < l.length) (heq : l.drop (i + 1) = m.drop (i + 1)) (hlt : l[i]?.getD 0 < m[i]?.getD 0) : val b l < val b m := by
 have e1 : val b l = val b (l.take i ++ (l[i] :: l.drop (i + 1))) := by rw [List.getElem_cons_drop, List.take_append_drop]
 have e2 : val b m = val b (m.take i ++ (m[i]'(by omega) :: m.drop (i + 1))) := by rw [List.getElem_cons_drop, List.take_append_drop]
 rw [e1, e2, val_append, val_append]
 simp only [val, List.length_take, ← hlen, heq]
 rw [List.getElem?_eq_getElem hi, List.getElem?_eq_getElem (by omega)] at hlt
 simp only [Option.getD_some] at hlt
 have h1 : val b (l.take i) < b ^ i := by
  have := val_lt (b := b) (l.take i) (fun x hx => hl x (List.mem_of_mem_take hx))
  rwa [List.length_take, Nat.min_eq_left (by omega)] at this
 rw [Nat.min_eq_left (by omega), Nat.mul_add, Nat.mul_add]
 have h2 : b ^ i * (l[i] + 1) ≤ b ^ i * (m[i]'(by omega)) := Nat.mul_le_mul_left _ hlt
 rw [Nat.mul_add] at h2
 omega
end Go.Proofs.YtfflmmbhpchloaaGreatDoor
end
section
open Go.RowKit
namespace Go.Proofs.YtfflmmbhpchloaaGreatDoor
theorem block_add (a : Addr) (n : Nat) : (a.add n).block = a.block := by unfold Addr.add; split <;> rfl
def Rd (f : Nat → Value) (w : World) (B : Nat) (A : Option Addr) (xs : List Nat) : Prop :=
 0 < xs.length → ∃ ad, A = some ad ∧ ad.block < B ∧ ∀ j x, xs[j]? = some x → w.cell? (ad.add j) = some (f x)
def U32 (x : Nat) : Value := .int .u32 (x : Int)
def U8 (x : Nat) : Value := .int .u8 (x : Int)
section
variable {f : Nat → Value} {w w' : World} {B B' : Nat} {A : Option Addr} {xs : List Nat}
theorem Rd.nil : Rd f w B A [] := fun h => absurd h (by simp)
theorem Rd.at_ {k : Nat} (h : Rd f w B A xs) (hk : k < xs.length) : ∃ ad, A = some ad ∧ ad.block < B ∧ w.cell? (ad.add k) = some (f xs[k]) := by
 obtain ⟨ad, e, hb, hc⟩ := h (by omega)
 exact ⟨ad, e, hb, hc k _ (List.getElem?_eq_getElem hk)⟩
theorem Rd.keep (h : Rd f w B A xs) (hk : ∀ p : Addr, p.block < B → w'.cell? p = w.cell? p) : Rd f w' B A xs := fun hn => by
 obtain ⟨ad, e, hb, hc⟩ := h hn
 exact ⟨ad, e, hb, fun j u hu => (hk _ (by rw [block_add]; exact hb)).trans (hc j u hu)⟩
theorem Rd.more (h : Rd f w B A xs) (hB : B ≤ B') : Rd f w B' A xs := fun hn => by
 obtain ⟨ad, e, hb, hc⟩ := h hn
 exact ⟨ad, e, by omega, hc⟩
theorem Rd.below (h : Rd f w B A xs) (hb : Below B w w') : Rd f w' B A xs := h.keep fun _ hp => hb.cell hp
theorem Rd.drewN (h : Rd f w B A xs) (k : Nat) : Rd f (w.drewN k) B A xs := h
theorem Rd.take (h : Rd f w B A xs) (k : Nat) : Rd f w B A (xs.take k) := fun hn => by
 obtain ⟨ad, e, hb, hc⟩ := h (by rw [List.length_take] at hn; omega)
 refine ⟨ad, e, hb, fun j x hx => hc j x ?_⟩
 rw [List.getElem?_take] at hx
 split at hx
 ·exact hx
 ·cases hx
end
def W32 : Nat := 4294967296
theorem W32_eq : W32 = 4294967296 := rfl
def trimmed (ws : List Nat) : Nat := (digs W32 (val W32 ws)).length
def Good32 (ws : List Nat) : Prop := ∀ x ∈ ws, x < W32
theorem trimmed_of {ws : List Nat} {k : Nat} (h : Good32 ws) (hk : k ≤ ws.length) (hz : ∀ j : Nat, k ≤ j → ws[j]?.getD 0 = 0) (hl : 0 < k → ws[k - 1]?.getD 0 ≠ 0) : trimmed ws = k := by
 unfold trimmed
 rw [← trim_eq (by decide) ws k h hk hz hl, List.length_take, Nat.min_eq_left hk]
theorem slice_ret {A : Option Addr} {c m n : Nat} (h : m = n) : Ending.returned (.slice A m c) = .returned (.slice A n c) := by rw [h]
def lenOf : Value → Nat | .slice _ k _ => k | _ => 0
theorem hide {p : Prop} (h : p) : Hid p := h
theorem trim_any (A : Option Addr) (ws : List Nat) (c : Nat) (w : World) (B : Nat) (h : Rd U32 w B A ws) (hw : Good32 ws) (hl : ws.length ≤ 1000000) (hc : ws.length ≤ c) :
 Calls Tryz.prog 75 #[.slice A ws.length c] w fun e w' => e = .returned (.slice A (trimmed ws) c) ∧ w = w' := by
 obtain ⟨n, hn⟩ : ∃ n, n = ws.length := ⟨_, rfl⟩
 have hl' : n ≤ 1000000 := by omega
 have hc' : n ≤ c := by omega
 rw [← hn]
 have HN := hide hn; have HW := hide hw; have HR := hide h
 clear hw hn hl hc h
 go_enter Tryz.func75, Tryz.ntmps75
 go_wp2
 go_loop [0] (fun l => ∃ k : Nat, k ≤ n ∧ Hid (∀ j : Nat, k ≤ j → ws[j]?.getD 0 = 0) ∧ l = .slice A k c) lenOf
 case atStart => exact ⟨n, Nat.le_refl _, fun j hj => by rw [List.getElem?_eq_none (by have := HN.out; omega)]; rfl, rfl⟩
 case round =>
  obtain ⟨k, hk, hz, rfl⟩ := hrel
  by_cases h0 : k = 0
  ·subst h0
   go_wp2
   go_ret
   exact ⟨slice_ret (trimmed_of HW.out (by omega) hz.out (by omega)).symm, rfl⟩
  ·obtain ⟨m, rfl⟩ : ∃ m, k = m + 1 := ⟨k - 1, by omega⟩
   have hm : m < ws.length := by have := HN.out; omega
   obtain ⟨ad, rfl, hb, hcell⟩ := HR.out.at_ hm
   have hx : ws[m]?.getD 0 = ws[m] := by rw [List.getElem?_eq_getElem hm]; rfl
   obtain ⟨x, hxe⟩ : ∃ x, x = ws[m] := ⟨_, rfl⟩
   rw [← hxe] at hcell hx
   unfold U32 at hcell
   have HX := hide hx
   clear hx hxe hm
   by_cases hx0 : x = 0
   ·have hx1 : ((x : Int) == 0) = true := by subst hx0; rfl
    have HX0 := hide hx0
    clear hx0
    go_wp2
    go_round
    case rel => exact ⟨m, by omega, fun j hj => by rcases Nat.eq_or_lt_of_le hj with rfl | hj; (· rw [HX.out, HX0.out]); (· exact hz.out j hj), by first | rfl | simp⟩
    case measure => simp [lenOf]
   ·have hx1 : ((x : Int) == 0) = false := by simp; omega
    have HX0 := hide hx0
    clear hx0
    go_wp2
    go_ret
    exact ⟨slice_ret (trimmed_of HW.out (by have := HN.out; omega) hz.out (fun _ => by rw [Nat.add_sub_cancel, HX.out]; exact HX0.out)).symm, rfl⟩
theorem quiet_left {P : Program} {f : FuncId} {args : Array Value} {w : World} {n : Nat} {v : Value}
 (h : Calls P f args (w.drewN n) fun e w' => e = .returned v ∧ w.drewN n = w') : Calls P f args (w.drewN n) fun e w'' => e = .returned v ∧ ∃ m, w'' = w.drewN m :=
 h.mono fun _ _ ⟨he, hm⟩ => ⟨he, n, hm.symm⟩
theorem drew_cell {W w : World} {n : Nat} {p : Addr} {v : Option Value} (h : W = w.drewN n) (hc : w.cell? p = v) : W.cell? p = v := by rw [h]; exact hc
theorem drew_hid {W wr w : World} {n q : Nat} (h : W = wr.drewN n) (hq : Hid (wr = w.drewN q)) : Hid (W = w.drewN (q + n)) := by unfold Hid; rw [h, hq.out, World.drewN_drewN]
theorem drew_more {wr w : World} {n q : Nat} (hq : Hid (wr = w.drewN q)) : Hid (wr.drewN n = w.drewN (q + n)) := by unfold Hid; rw [hq.out, World.drewN_drewN]
theorem drew_end {wr w : World} {n q : Nat} (hq : Hid (wr = w.drewN q)) : ∃ m, wr.drewN n = w.drewN m := ⟨_, (drew_more hq).out⟩
def cmpI (a b : Nat) : Int := if a < b then -1 else if b < a then 1 else 0
theorem cmpI_lt {a b : Nat} (h : a < b) : cmpI a b = -1 := if_pos h
theorem cmpI_gt {a b : Nat} (h : b < a) : cmpI a b = 1 := by unfold cmpI; rw [if_neg (by omega), if_pos h]
theorem cmpI_eq {a b : Nat} (h : a = b) : cmpI a b = 0 := by unfold cmpI; rw [if_neg (by omega), if_neg (by omega)]
theorem int_ret {k : IntKind} {a b : Int} (h : a = b) : Ending.returned (.int k a) = .returned (.int k b) := by rw [h]
theorem cmpInt_any (a b : Nat) (w : World) :
 Calls Tryz.prog 116 #[.int .i64 a, .int .i64 b] w fun e w' => e = .returned (.int .i64 (cmpI a b)) ∧ w = w' := by
 rcases Nat.lt_trichotomy a b with h | h | h
 ·go_enter Tryz.func116, Tryz.ntmps116
  go_wp2
  go_ret
  exact ⟨int_ret (cmpI_lt h).symm, rfl⟩
 ·have H := hide h
  have h1 : ¬ a < b := by omega
  have h2 : ¬ b < a := by omega
  clear h
  go_enter Tryz.func116, Tryz.ntmps116
  go_wp2
  go_ret
  exact ⟨int_ret (cmpI_eq H.out).symm, rfl⟩
 ·have h1 : ¬ a < b := by omega
  go_enter Tryz.func116, Tryz.ntmps116
  go_wp2
  go_ret
  exact ⟨int_ret (cmpI_gt h).symm, rfl⟩
theorem cmpWord_any (a b : Nat) (w : World) :
 Calls Tryz.prog 144 #[.int .u32 a, .int .u32 b] w fun e w' => e = .returned (.int .i64 (cmpI a b)) ∧ w = w' := by
 rcases Nat.lt_trichotomy a b with h | h | h
 ·go_enter Tryz.func144, Tryz.ntmps144
  go_wp2
  go_ret
  exact ⟨int_ret (cmpI_lt h).symm, rfl⟩
 ·have H := hide h
  have h1 : ¬ a < b := by omega
  have h2 : ¬ b < a := by omega
  clear h
  go_enter Tryz.func144, Tryz.ntmps144
  go_wp2
  go_ret
  exact ⟨int_ret (cmpI_eq H.out).symm, rfl⟩
 ·have h1 : ¬ a < b := by omega
  go_enter Tryz.func144, Tryz.ntmps144
  go_wp2
  go_ret
  exact ⟨int_ret (cmpI_gt h).symm, rfl⟩
def dl (m : Nat) : Nat := (digs W32 m).length
theorem cmpI_len {m n : Nat} (h : dl m ≠ dl n) : cmpI (dl m) (dl n) = cmpI m n := by
 rcases Nat.lt_or_ge (dl m) (dl n) with h1 | h1
 ·rw [cmpI_lt h1, cmpI_lt (digs_len_lt (b := W32) (by decide) h1)]
 ·rw [cmpI_gt (by omega), cmpI_gt (digs_len_lt (b := W32) (by decide) (show dl n < dl m by omega))]
theorem cmpI_at {m n i : Nat} (hlen : dl m = dl n) (hi : i < dl m) (heq : (digs W32 m).drop (i + 1) = (digs W32 n).drop (i + 1)) {x y : Nat} (hx : (digs W32 m)[i]? = some x) (hy : (digs W32 n)[i]? = some y) (hne : x ≠ y) : cmpI x y = cmpI m n := by
 have key : ∀ {m n x y : Nat}, dl m = dl n → i < dl m → (digs W32 m).drop (i + 1) = (digs W32 n).drop (i + 1) → (digs W32 m)[i]? = some x → (digs W32 n)[i]? = some y → x < y → m < n := by
  intro m n x y hlen hi heq hx hy hlt
  have := val_cmp (b := W32) (digs W32 m) (digs W32 n) i (digs_lt (by decide) m) hlen hi heq (by rw [hx, hy]; exact hlt)
  rwa [val_digs (by decide), val_digs (by decide)] at this
 rcases Nat.lt_or_ge x y with h | h
 ·rw [cmpI_lt h, cmpI_lt (key hlen hi heq hx hy h)]
 ·rw [cmpI_gt (by omega), cmpI_gt (key hlen.symm (by omega) heq.symm hy hx (by omega))]
theorem compare_any (A A' : Option Addr) (m n : Nat) (c c' : Nat) (w : World) (B : Nat) (h : Rd U32 w B A (digs W32 m)) (h' : Rd U32 w B A' (digs W32 n)) (hl : dl m ≤ 1000000) (hl' : dl n ≤ 1000000) (hc : dl m ≤ c) (hc' : dl n ≤ c') :
 Calls Tryz.prog 100 #[.slice A (dl m) c, .slice A' (dl n) c'] w fun e w' => e = .returned (.int .i64 (cmpI m n)) ∧ ∃ q, w' = w.drewN q := by
 obtain ⟨k, hk⟩ : ∃ k, k = dl m := ⟨_, rfl⟩
 obtain ⟨k', hk'⟩ : ∃ k, k = dl n := ⟨_, rfl⟩
 have HR := hide h; have HR' := hide h'
 rw [← hk] at hl hc ⊢
 rw [← hk'] at hl' hc' ⊢
 have HK := hide hk; have HK' := hide hk'
 clear hk hk' h h'
 by_cases hlen : k = k'
 ·subst hlen
  go_enter Tryz.func100, Tryz.ntmps100
  go_wp2
  go_loopw [5] (fun i wr => ∃ j q : Nat, j ≤ k ∧ Hid ((digs W32 m).drop j = (digs W32 n).drop j) ∧ i = .int .i64 ((j : Int) - 1) ∧ Hid (wr = w.drewN q)) (fun i _ => (intOf i + 1).toNat)
  case atStart => exact ⟨k, 0, Nat.le_refl _, by unfold Hid; rw [List.drop_of_length_le (Nat.le_of_eq HK.out.symm), List.drop_of_length_le (Nat.le_of_eq HK'.out.symm)], rfl, rfl⟩
  case round =>
   obtain ⟨j, q, hj, hd, rfl, HQ⟩ := hrel
   by_cases h0 : j = 0
   ·subst h0
    go_wp2
    go_ret
    exact ⟨int_ret (cmpI_eq (digs_inj (b := W32) (by decide) hd.out)).symm, q, HQ.out⟩
   ·obtain ⟨i, rfl⟩ : ∃ i, j = i + 1 := ⟨j - 1, by omega⟩
    have hi : i < (digs W32 m).length := Nat.lt_of_lt_of_eq (by omega) HK.out
    have hi' : i < (digs W32 n).length := Nat.lt_of_lt_of_eq (by omega) HK'.out
    obtain ⟨ad, rfl, hb, hcell⟩ := HR.out.at_ hi
    obtain ⟨ad', rfl, hb', hcell'⟩ := HR'.out.at_ hi'
    obtain ⟨x, hx⟩ : ∃ x, x = (digs W32 m)[i] := ⟨_, rfl⟩
    obtain ⟨y, hy⟩ : ∃ x, x = (digs W32 n)[i] := ⟨_, rfl⟩
    rw [← hx] at hcell
    rw [← hy] at hcell'
    have HX : Hid ((digs W32 m)[i]? = some x) := by unfold Hid; rw [hx, List.getElem?_eq_getElem hi]
    have HY : Hid ((digs W32 n)[i]? = some y) := by unfold Hid; rw [hy, List.getElem?_eq_getElem hi']
    unfold U32 at hcell hcell'
    replace hcell : wr.cell? (ad.add i) = some (.int .u32 x) := by rw [HQ.out]; exact hcell
    replace hcell' : wr.cell? (ad'.add i) = some (.int .u32 y) := by rw [HQ.out]; exact hcell'
    have hli : i < dl m := hi
    have HLI := hide hli
    have hdrop : x = y → (digs W32 m).drop i = (digs W32 n).drop i := fun e => by
     rw [List.drop_eq_getElem_cons hi, List.drop_eq_getElem_cons hi', ← hx, ← hy, e, hd.out]
    have HD := hide hdrop
    clear hx hy hi hi' hli hdrop
    by_cases hxy : x = y
    ·subst hxy
     go_wp2_with fail
     go_quiet (fail)
     go_wp2
     go_roundw
     case rel => exact ⟨i, _, by omega, HD.out (by first | rfl | trivial), rfl, drew_more HQ⟩
     case measure => simp [intOf]
    ·go_wp2_with fail
     go_quiet (fail)
     rename_i nq
     obtain ⟨W2, hW2⟩ : ∃ W2, W2 = wr.drewN nq := ⟨_, rfl⟩
     rw [← hW2]
     have HC := drew_cell hW2 hcell
     have HC' := drew_cell hW2 hcell'
     have HW2 := drew_hid hW2 HQ
     clear hW2 hcell hcell' HQ
     go_wp2_with fail
     go_quiet ((go_at_call 144; exact quiet_left (cmpWord_any x y _)))
     go_wp2
     go_ret
     exact ⟨int_ret (cmpI_at (by rw [← HK.out]; exact HK'.out) HLI.out hd.out HX.out HY.out hxy), drew_end HW2⟩
 ·go_enter Tryz.func100, Tryz.ntmps100
  go_wp2_with (go_at_call 116; refine (cmpInt_any _ _ _).mono ?_; rintro e w' ⟨rfl, rfl⟩)
  go_ret
  exact ⟨int_ret (by rw [HK.out, HK'.out]; exact cmpI_len (by rw [← HK.out, ← HK'.out]; exact hlen)), 0, rfl⟩
end Go.Proofs.YtfflmmbhpchloaaGreatDoor
end
