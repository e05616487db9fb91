/- Each theorem here says its own conditions. -/
import Derived.Test.YtfflmmbhpchloaaGreatDoorGTtc38
import Derived.Test.YtfflmmbhpchloaaGreatDoorGTtc41
import Derived.Test.YtfflmmbhpchloaaGreatDoorGTtc23
import Derived.Test.YtfflmmbhpchloaaGreatDoorGTtc28
import Derived.Test.YtfflmmbhpchloaaGreatDoorGTtc39
set_option maxRecDepth 100000
set_option maxHeartbeats 16000000
section
open Go.RowKit
open Go.Proofs.YtfflmmbhpchloaaGreatDoor.V
namespace Go.Proofs.YtfflmmbhpchloaaGreatDoor
def convR (rs : List E.TRow) : List (Int × List ByteArray) := rs.map fun r => ((r.1 : Int), r.2)
theorem rw_lw {w : World} {B : Nat} {A : Option Addr} {rs : List E.TRow} (h : E.RW w B A rs) : LW w B A (convR rs) := fun hn => by
 unfold convR at hn ⊢
 rw [List.length_map] at hn
 obtain ⟨g, vs, e, hb, hl, hc⟩ := h hn
 refine ⟨g, 0, e, hb, fun j r hj => ?_⟩
 rw [List.getElem?_map, Option.map_eq_some_iff] at hj
 obtain ⟨r0, hr0, rfl⟩ := hj
 have hjl : j < vs.length := by rw [hl]; exact (List.getElem?_eq_some_iff.1 hr0).1
 obtain ⟨h1, h2, A', c, h3, _, h5, h6⟩ := hc j r0 _ hr0 (List.getElem?_eq_getElem hjl)
 exact ⟨A', c, by rw [Nat.zero_add]; exact h1, by rw [Nat.zero_add, h2, h3], h5, h6⟩
def LoC (W : World) (T : Tb) (e : Ending) (w' : World) : Prop := ∃ base p x, W.heap.size ≤ base ∧ e = .returned (.tuple #[.pointer (some ⟨p, 0, none⟩), .int .i64 0, .int .i64 0]) ∧ TabM base w' p x T ∧ Bel W w'
theorem cload_h {W : World} {s : ByteArray} {rs : List E.TRow} {T : Tb} (hs : E.tableOf s = (rs, 0, 0)) (hT : Tb.nil.rows (convR rs) = .ok T) (hz : ∀ r ∈ convR rs, ∀ u ∈ r.2, u.size ≤ 2000000) (hn : rs.length ≤ 900000) (tb : Tabs W) :
 Calls Tryz.prog 9 #[.string s] W (LoC W T) := by
 obtain ⟨n, hnn⟩ : ∃ k, rs.length = k := ⟨_, rfl⟩
 have CP : Hid (∀ W', Calls Tryz.prog 27 #[.string s] W' (fun e w' => ∃ A c, e = .returned (.tuple #[.slice A n c, .int .i64 0, .int .i64 0]) ∧ LW w' w'.heap.size A (convR rs) ∧ Bel W' w')) := fun W' => (E.parse_any hs W').mono (by
  rintro e w' ⟨A, c, h1, _, h2, h3⟩
  rw [hnn] at h1
  exact ⟨A, c, h1, rw_lw h2.out, h3⟩)
 have CL : Hid (∀ W' A c, LW W' W'.heap.size A (convR rs) → Bel W W' → Calls Tryz.prog 25 #[.slice A n c] W' (fun e w' => ∃ p x, e = .returned (.tuple #[.pointer (some ⟨p, 0, none⟩), .int .i64 0, .int .i64 0]) ∧ TabM W'.heap.size w' p x T ∧ Bel W' w')) := fun W' A c h1 hb => by
  have h2 := tload_h (c := c) h1 (n := n) (by rw [← hnn]; simp [convR]) (by omega) hz (tb.up hb.hid)
  rw [hT] at h2
  exact h2
 clear hs hT hz hn tb hnn
 go_enter Tryz.func9, Tryz.ntmps9
 go_wp2_with (first
  | (go_at_call 27; (with_reducible refine (CP.out _).mono ?_); rintro e w1 ⟨A, c, rfl, hlw, hb1⟩)
  | (go_at_call 25; (with_reducible refine (CL.out _ _ _ hlw hb1).mono ?_); rintro e w2 ⟨p, x, rfl, ht, hb2⟩)
  | fail)
 refine bodyPost_ret (v := .tuple #[.pointer (some ⟨p, 0, none⟩), .int .i64 0, .int .i64 0]) (by simp [results, Tryz.results9, go_sem]) rfl ?_
 exact ⟨w1.heap.size, p, x, hb1.sz, rfl, ht, hb1.up hb2.hid⟩
def awakeS : ByteArray := ⟨#[98, 97, 115, 101, 32, 109, 101, 116, 101, 114, 32, 108, 101, 110, 103, 116, 104, 10, 117, 110, 105, 116, 32, 102, 111, 111, 116, 32, 51, 56, 49, 47, 49, 50, 53, 48, 32, 109, 101, 116, 101, 114]⟩
def awakeR : List E.TRow := (E.tableOf awakeS).1
def okD (r : Except (Int × Int) Tb) : Bool := match r with
 | .ok _ => true
 | .error _ => false
def tabD (r : Except (Int × Int) Tb) : Tb := match r with
 | .ok T => T
 | .error _ => Tb.nil
theorem okD_eq {r : Except (Int × Int) Tb} (h : okD r = true) : r = .ok (tabD r) := by
 cases r with
 | ok T => rfl
 | error v => cases h
def awakeT : Tb := tabD (Tb.nil.rows (convR awakeR))
theorem awake_rows : (E.tableOf awakeS).2 = (0, 0) := by decide +kernel
theorem awake_ok : okD (Tb.nil.rows (convR awakeR)) = true := by decide +kernel
theorem awake_len : awakeR.length = 2 := by decide +kernel
theorem awake_sz : (convR awakeR).all (fun r => r.2.all fun u => decide (u.size ≤ 2000000)) = true := by decide +kernel
theorem sz_all {rs : List (Int × List ByteArray)} (h : rs.all (fun r => r.2.all fun u => decide (u.size ≤ 2000000)) = true) : ∀ r ∈ rs, ∀ u ∈ r.2, u.size ≤ 2000000 := fun r hr u hu =>
 of_decide_eq_true (List.all_eq_true.1 (List.all_eq_true.1 h r hr) u hu)
theorem pair_eq {r : List E.TRow × Nat × Nat} (h : r.2 = (0, 0)) : r = (r.1, 0, 0) := by
 obtain ⟨a, b⟩ := r
 cases h
 rfl
theorem awake_load {W : World} (tb : Tabs W) : Calls Tryz.prog 9 #[.string awakeS] W (LoC W awakeT) := cload_h (pair_eq awake_rows) (okD_eq awake_ok) (sz_all awake_sz) (by show awakeR.length ≤ 900000; rw [awake_len]; omega) tb
def footS : ByteArray := ⟨#[102, 111, 111, 116]⟩
def meterS : ByteArray := ⟨#[109, 101, 116, 101, 114]⟩
def entD (o : Option Ent) : Ent := o.getD ⟨⟨#[]⟩, 0, 0, 0, false, V8.z, 0⟩
theorem entD_eq {o : Option Ent} (h : o.isSome = true) : o = some (entD o) := by
 cases o with
 | none => cases h
 | some e => rfl
theorem foot_some : (lookL awakeT.ents footS).isSome = true := by decide +kernel
theorem meter_some : (lookL awakeT.ents meterS).isSome = true := by decide +kernel
theorem foot_facts : (entD (lookL awakeT.ents footS)).id = meterS ∧ (entD (lookL awakeT.ents footS)).base = -1 ∧ (entD (lookL awakeT.ents footS)).fac = mkRat 381 1250 := by decide +kernel
theorem meter_base : (entD (lookL awakeT.ents meterS)).base = 0 := by decide +kernel
theorem foot_text : decQ (mkRat 381 1250) = [51, 56, 49, 47, 49, 50, 53, 48] := by
 have h1 : (mkRat 381 1250).num = 381 ∧ (mkRat 381 1250).den = 1250 := by decide +kernel
 unfold decQ
 rw [h1.1, h1.2, if_neg (by decide)]
 unfold decZ
 rw [if_neg (by decide), show (381 : Int).natAbs = 381 from rfl]
 rw [decL_lit (m := 381) (ds := [1, 8, 3]) (l := [51, 56, 49]) (by intro x hx; simp at hx; omega) (by intro x hx; simp at hx; omega) rfl (by decide) (by decide), decL_lit (m := 1250) (ds := [0, 5, 2, 1]) (l := [49, 50, 53, 48]) (by intro x hx; simp at hx; omega) (by intro x hx; simp at hx; omega) rfl (by decide) (by decide)]
 rfl
theorem awake_h {W : World} (tb : Tabs W) : Calls Tryz.prog 7 #[] W (RetB W true) := by
 have CL : Hid (Calls Tryz.prog 9 #[.string awakeS] W (LoC W awakeT)) := awake_load tb
 obtain ⟨f1, f2, f3⟩ := foot_facts
 obtain ⟨fr, hfr⟩ : ∃ r, mkRat 381 1250 = r := ⟨_, rfl⟩
 have hft := foot_text
 rw [hfr] at f3 hft
 have CE1 : Hid (∀ W' base p x, TabM base W' p x awakeT → Calls Tryz.prog 16 #[.pointer (some ⟨p, 0, none⟩), .string footS] W' (fun e w' => ∃ b A n c A' n' c' b2 B k d B' k' d' ho, e = .returned (.tuple #[.agg #[.string footS, .string meterS, .int .i64 (-1), .bool b, .slice A n c, .slice A' n' c', .bool b2, .slice B k d, .slice B' k' d', .bool ho], .bool true]) ∧ QA w' b A n c A' n' c' fr 101 ∧ Bel W' w')) := fun W' base p x h => by
  have h1 := tentry_h (s := footS) h (by decide)
  rw [entD_eq foot_some] at h1
  refine h1.mono ?_
  rintro e w' ⟨b, A, n, c, A', n', c', b2, B, k, d, B', k', d', h2, h3, _, h5⟩
  rw [f1, f2] at h2
  rw [f3] at h3
  exact ⟨b, A, n, c, A', n', c', b2, B, k, d, B', k', d', _, h2, h3, h5⟩
 have CE2 : Hid (∀ W' base p x, TabM base W' p x awakeT → Calls Tryz.prog 16 #[.pointer (some ⟨p, 0, none⟩), .string meterS] W' (fun e w' => ∃ id b A n c A' n' c' b2 B k d B' k' d' ho, e = .returned (.tuple #[.agg #[.string meterS, .string id, .int .i64 0, .bool b, .slice A n c, .slice A' n' c', .bool b2, .slice B k d, .slice B' k' d', .bool ho], .bool true]) ∧ Bel W' w')) := fun W' base p x h => by
  have h1 := tentry_h (s := meterS) h (by decide)
  rw [entD_eq meter_some] at h1
  refine h1.mono ?_
  rintro e w' ⟨b, A, n, c, A', n', c', b2, B, k, d, B', k', d', h2, _, _, h5⟩
  rw [meter_base] at h2
  exact ⟨_, b, A, n, c, A', n', c', b2, B, k, d, B', k', d', _, h2, h5⟩
 have CT : Hid (∀ W' b A n c A' n' c', QA W' b A n c A' n' c' fr 101 → Calls Tryz.prog 18 #[.agg #[.bool b, .slice A n c, .slice A' n' c']] W' (fun e w' => e = .returned (.string ⟨#[51, 56, 49, 47, 49, 50, 53, 48]⟩) ∧ Bel W' w')) := fun W' b A n c A' n' c' hq => (rtext_h hq (by decide) (by decide)).mono (by
  rintro e w' ⟨u, h1, h2, h3⟩
  have h4 : u = ⟨#[51, 56, 49, 47, 49, 50, 53, 48]⟩ := by
   have h5 := h2.out
   rw [hft] at h5
   obtain ⟨d⟩ := u
   have h6 : d = #[51, 56, 49, 47, 49, 50, 53, 48] := by rw [← Array.toArray_toList (xs := d)]; exact congrArg List.toArray h5
   rw [h6]
  rw [h4] at h1
  exact ⟨h1, h3⟩)
 unfold awakeS at CL
 unfold footS meterS at CE1
 unfold meterS at CE2
 clear f1 f2 f3 hfr hft tb
 go_enter Tryz.func7, Tryz.ntmps7
 go_upto_region 4 with (first | (go_at_call 9; (with_reducible refine CL.out.mono ?_); rintro e w1 ⟨base, p, x, hbs, rfl, ht, hb1⟩) | fail)
 go_upto_region 5 with (first | (go_at_call 16; (with_reducible refine (CE1.out _ _ _ _ ht).mono ?_); rintro e w2 ⟨b, A, n, c, A', n', c', b2, B, k, d, B', k', d', ho, rfl, hq, hb2⟩) | (refine wpList_store_new 55 [.string ⟨#[102, 111, 111, 116]⟩, .string ⟨#[109, 101, 116, 101, 114]⟩, .int .i64 (-1), .bool b, .slice A n c, .slice A' n' c', .bool b2, .slice B k d, .slice B' k' d', .bool ho] (.tmp 4) (.tmp 22) _ rfl rfl rfl rfl (by kernel_rfl) rfl rfl ?_) | fail)
 refine kwp_named ?_
 intro w3 hw3
 have HE : At w3 w2.heap.size [.string ⟨#[102, 111, 111, 116]⟩, .string ⟨#[109, 101, 116, 101, 114]⟩, .int .i64 (-1), .bool b, .slice A n c, .slice A' n' c', .bool b2, .slice B k d, .slice B' k' d', .bool ho] := by rw [hw3]; exact at_new0 _ _ _
 replace ht : TabM base w3 p x awakeT := by rw [hw3]; exact (ht.up hb2.hid).al _
 have HB : Bel W w3 := by rw [hw3]; exact (hb1.up hb2.hid).al _
 replace hq : QA w3 b A n c A' n' c' fr 101 := by rw [hw3]; exact hq.al _
 obtain ⟨q4, hq4⟩ : ∃ z, z = w2.heap.size := ⟨_, rfl⟩
 rw [← hq4] at HE ⊢
 clear hw3 hq4 hb1 hb2 hbs
 go_upto_region 6 with (first | (go_at_call 16; (with_reducible refine (CE2.out _ _ _ _ ht).mono ?_); rintro e w4 ⟨id2, b5, A5, n5, c5, A6, n6, c6, b6, B5, k5, d5, B6, k6, d6, ho6, rfl, hb4⟩) | (refine wpList_store_new 55 [.string ⟨#[109, 101, 116, 101, 114]⟩, .string id2, .int .i64 0, .bool b5, .slice A5 n5 c5, .slice A6 n6 c6, .bool b6, .slice B5 k5 d5, .slice B6 k6 d6, .bool ho6] (.tmp 6) (.tmp 27) _ rfl rfl rfl rfl (by kernel_rfl) rfl rfl ?_) | fail)
 refine kwp_named ?_
 intro w5 hw5
 have HF : At w5 w4.heap.size [.string ⟨#[109, 101, 116, 101, 114]⟩, .string id2, .int .i64 0, .bool b5, .slice A5 n5 c5, .slice A6 n6 c6, .bool b6, .slice B5 k5 d5, .slice B6 k6 d6, .bool ho6] := by rw [hw5]; exact at_new0 _ _ _
 replace HE := (HE.up hb4.hid).al (.cells #[.string ⟨#[109, 101, 116, 101, 114]⟩, .string id2, .int .i64 0, .bool b5, .slice A5 n5 c5, .slice A6 n6 c6, .bool b6, .slice B5 k5 d5, .slice B6 k6 d6, .bool ho6] 55)
 replace hq := (hq.up hb4.hid).al (.cells #[.string ⟨#[109, 101, 116, 101, 114]⟩, .string id2, .int .i64 0, .bool b5, .slice A5 n5 c5, .slice A6 n6 c6, .bool b6, .slice B5 k5 d5, .slice B6 k6 d6, .bool ho6] 55)
 replace HB : Bel W w5 := by rw [hw5]; exact (HB.up hb4.hid).al _
 rw [← hw5] at HE hq
 obtain ⟨q6, hq6⟩ : ∃ z, z = w4.heap.size := ⟨_, rfl⟩
 rw [← hq6] at HF ⊢
 clear hw5 hq6 hb4 ht
 have e1 := HE.c1; have e2 := HE.c2; have e3 := at_nth HE 3 rfl; have e4 := at_nth HE 4 rfl; have e5 := at_nth HE 5 rfl; have el := HE.lt
 have g2 := HF.c2; have gl := HF.lt
 go_wp2_with (first | (go_at_call 18; (with_reducible refine (CT.out _ _ _ _ _ _ _ _ hq).mono ?_); rintro e w6 ⟨rfl, hb6⟩; replace HE := HE.up hb6.hid; replace HF := HF.up hb6.hid; replace HB := HB.up hb6.hid; clear e1 e2 e3 e4 e5 el g2 gl; have e1 := HE.c1; have e2 := HE.c2; have el := HE.lt; have g2 := HF.c2; have gl := HF.lt) | fail)
 go_ret
 exact ⟨rfl, HB⟩
theorem light_app {rs : List (Int × List ByteArray)} {r : Int × List ByteArray} (h : Light rs) (h' : Light [r]) : (rs ++ [r]).length ≤ 61 ∧ ∀ x ∈ rs ++ [r], ∀ s ∈ x.2, s.size ≤ 2000000 := by
 refine ⟨by have := h.1; simp; omega, fun x hx s hs => ?_⟩
 rcases List.mem_append.1 hx with h1 | h1
 ·exact Nat.le_trans ((h.2 x h1).2 s hs) (by decide)
 ·exact Nat.le_trans ((h'.2 x h1).2 s hs) (by decide)
def LdV (w : World) (res : Except (Int × Int) Tb) (v0 : Value) (v1 v2 : Int) : Prop := match res with
 | .error z => v0 = .pointer none ∧ v1 = z.1 ∧ v2 = z.2
 | .ok T => ∃ base p x, v0 = .pointer (some ⟨p, 0, none⟩) ∧ v1 = 0 ∧ v2 = 0 ∧ TabM base w p x T
theorem LdV.up {w w' : World} {res : Except (Int × Int) Tb} {v0 : Value} {v1 v2 : Int} (h : LdV w res v0 v1 v2) (hb : Hid (Below w.heap.size w w')) : LdV w' res v0 v1 v2 := by
 cases res with
 | error z => exact h
 | ok T => obtain ⟨base, p, x, h1, h2, h3, h4⟩ := h; exact ⟨base, p, x, h1, h2, h3, h4.up hb⟩
theorem load_v {W : World} {res : Except (Int × Int) Tb} {e : Ending} {w' : World} (h : LoadR W res e w') : ∃ v0 v1 v2, e = .returned (.tuple #[v0, .int .i64 v1, .int .i64 v2]) ∧ LdV w' res v0 v1 v2 ∧ Bel W w' := by
 cases res with
 | error z => exact ⟨_, _, _, h.1, ⟨rfl, rfl, rfl⟩, h.2⟩
 | ok T => obtain ⟨p, x, h1, h2, h3⟩ := h; exact ⟨_, _, _, h1, ⟨_, p, x, rfl, rfl, rfl, h2⟩, h3⟩
theorem entry_v {W : World} {s : ByteArray} {o : Option Ent} {e : Ending} {w' : World} (h : EnR W s o e w') : ∃ nm id ba b A n c A' n' c' b2 B k d B' k' d' ho ok, e = .returned (.tuple #[.agg #[.string nm, .string id, .int .i64 ba, .bool b, .slice A n c, .slice A' n' c', .bool b2, .slice B k d, .slice B' k' d', .bool ho], .bool ok]) ∧
 (ok = o.isSome) ∧ (∀ m, o = some m → id = m.id ∧ ba = m.base ∧ QA w' b A n c A' n' c' m.fac 101) ∧ Bel W w' := by
 cases o with
 | none => exact ⟨_, _, _, _, _, _, _, _, _, _, _, _, _, _, _, _, _, _, _, h.1, rfl, (fun m hm => by cases hm), h.2⟩
 | some m => obtain ⟨b, A, n, c, A', n', c', b2, B, k, d, B', k', d', h1, h2, _, h3⟩ := h; exact ⟨_, _, _, b, A, n, c, A', n', c', b2, B, k, d, B', k', d', _, _, h1, rfl, (fun m' hm => by injection hm with hm; subst hm; exact ⟨rfl, rfl, h2⟩), h3⟩
theorem bel_own {W w w' : World} {v : Value} {n : Nat} {xs : List Value} {t : TypeId} {k : Nat} (h : Bel W w) (ho : w.ownsRow W.heap.size t k v n xs) (hg : w.grownBy w' v.ownBlock) : Bel W w' := by
 refine Bel.of (khide (h.hid.out.trans ?_))
 refine ⟨hg.os, hg.tape, hg.output, hg.size, fun k hk => hg.block k (Nat.lt_of_lt_of_le hk h.sz) fun e => ?_⟩
 have := (ho.lt k e.symm).1
 omega
theorem rx_back {W w : World} {xs : List Value} {rs : List (Int × List ByteArray)} {B : Nat} (h : RX w B xs rs) (hb : Hid (Below B W w)) : RX W B xs rs := h.keep fun _ hp => (hb.out.cell hp).symm
theorem cmpR_self (r : Rat) : cmpR r r = 0 := by unfold cmpR; rw [if_neg (Rat.lt_irrefl), if_neg (Rat.lt_irrefl)]
section
variable {W : World} {A A2 : Option Addr} {n c m c2 : Nat} {rs : List (Int × List ByteArray)} {l : Int} {ws : List ByteArray} {s : ByteArray}
theorem twice_main (tb : Tabs W) (hL : LW W W.heap.size A rs) (hn : n = rs.length) (hR : RS W W.heap.size A2 ws) (hm : m = ws.length) (hmc : m ≤ c2) (hs : s.size ≤ 9223372036854775807) (h1 : Light rs) (h2 : Light [(l, ws)]) {res1 res2 : Except (Int × Int) Tb} (hr1 : Tb.nil.rows rs = res1) (hr2 : Tb.nil.rows (rs ++ [(l, ws)]) = res2) :
 Calls Tryz.prog 5 #[.slice A n c, .agg #[.int .i64 l, .slice A2 m c2], .string s] W (RetB W true) := by
 have hn60 : n ≤ 60 := by rw [hn]; exact h1.1
 have CA : Hid (∀ W', Bel W W' → Calls Tryz.prog 7 #[] W' (RetB W' true)) := fun W' hb => awake_h (tb.up hb.hid)
 have CH1 : Hid (∀ W', Bel W W' → Calls Tryz.prog 24 #[.slice A n c] W' (fun e w' => e = .returned (.bool false) ∧ w' = W')) := fun W' hb => (heavy_h (LW.more (hL.keep fun _ hp => hb.hid.out.cell hp) hb.sz) hn).mono (by
  rintro e w' ⟨b, h3, h4, h5⟩; rw [h4.2 h1] at h3; exact ⟨h3, h5⟩)
 have CH2 : Hid (∀ W' q, At W' q [.int .i64 l, .slice A2 m c2] → Bel W W' → Calls Tryz.prog 24 #[.slice (some ⟨q, 0, none⟩) 1 1] W' (fun e w' => e = .returned (.bool false) ∧ w' = W')) := fun W' q hq hb => (heavy_h (rs := [(l, ws)]) (lw_one hq hm hmc ((hR.keep fun _ hp => hb.hid.out.cell hp).more hb.sz)) rfl).mono (by
  rintro e w' ⟨b, h3, h4, h5⟩; rw [h4.2 h2] at h3; exact ⟨h3, h5⟩)
 have CL1 : Hid (∀ W', Bel W W' → Calls Tryz.prog 25 #[.slice A n c] W' (fun e w' => ∃ v0 k1 k2, e = .returned (.tuple #[v0, .int .i64 k1, .int .i64 k2]) ∧ LdV w' res1 v0 k1 k2 ∧ Bel W' w')) := fun W' hb => hr1 ▸ (tload_h (LW.more (hL.keep fun _ hp => hb.hid.out.cell hp) hb.sz) hn (by omega) (fun r hr s hs => Nat.le_trans ((h1.2 r hr).2 s hs) (by decide)) (tb.up hb.hid)).mono (fun _ _ h => load_v h)
 have CL2 : Hid (∀ W' A c, Bel W W' → LW W' W'.heap.size A (rs ++ [(l, ws)]) → Calls Tryz.prog 25 #[.slice A (n + 1) c] W' (fun e w' => ∃ v0 k1 k2, e = .returned (.tuple #[v0, .int .i64 k1, .int .i64 k2]) ∧ LdV w' res2 v0 k1 k2 ∧ Bel W' w')) := fun W' A c hb hl => hr2 ▸ (tload_h hl (by rw [hn, List.length_append]; rfl) (by omega) (light_app h1 h2).2 (tb.up hb.hid)).mono (fun _ _ h => load_v h)
 have CE : Hid (∀ W' base p x T, TabM base W' p x T → Calls Tryz.prog 16 #[.pointer (some ⟨p, 0, none⟩), .string s] W' (fun e w' => ∃ nm9 id9 ba9 b9 A9 n9 c9 A9' n9' c9' e9 B9 k9 d9 B9' k9' d9' ho9 ok9, e = .returned (.tuple #[.agg #[.string nm9, .string id9, .int .i64 ba9, .bool b9, .slice A9 n9 c9, .slice A9' n9' c9', .bool e9, .slice B9 k9 d9, .slice B9' k9' d9', .bool ho9], .bool ok9]) ∧ ok9 = (lookL T.ents s).isSome ∧ (∀ m, lookL T.ents s = some m → id9 = m.id ∧ ba9 = m.base ∧ QA w' b9 A9 n9 c9 A9' n9' c9' m.fac 101) ∧ Bel W' w')) := fun W' base p x T ht => (tentry_h ht hs).mono (fun _ _ h => entry_v h)
 have CC : Hid (∀ W' b A n c A' n' c' b2 B k d B' k' d' r, QA W' b A n c A' n' c' r 101 → QA W' b2 B k d B' k' d' r 101 → Calls Tryz.prog 26 #[.agg #[.bool b, .slice A n c, .slice A' n' c'], .agg #[.bool b2, .slice B k d, .slice B' k' d']] W' (IntPost W' 0)) := fun W' b A n c A' n' c' b2 B k d B' k' d' r h h' => by
  have h3 := rcmp_h h h' (by decide) (by decide)
  rwa [cmpR_self] at h3
 have HRS : Hid ((∃ z, res1 = .error z ∧ res2 = .error z ∧ z.2 ≠ 0) ∨ (∃ T z, res1 = .ok T ∧ res2 = .error z ∧ z.2 ≠ 0) ∨ ∃ T T2, res1 = .ok T ∧ res2 = .ok T2 ∧ ∀ e, lookL T.ents s = some e → lookL T2.ents s = some e) := by
  have e := rows_app rs [(l, ws)] Tb.nil
  rw [hr1, hr2] at e
  cases res1 with
  | error z => exact .inl ⟨z, rfl, e, rows_nz hr1⟩
  | ok T =>
    dsimp only at e
    rw [rows_one] at e
    cases hrow : T.row ws with
    | error v => rw [hrow] at e; exact .inr (.inl ⟨T, _, rfl, e, row_nz hrow⟩)
    | ok T2 => rw [hrow] at e; exact .inr (.inr ⟨T, T2, rfl, e, fun e he => row_keeps hrow he⟩)
 have HN := khide hn
 have HM := khide hm
 have HRW := khide hR
 obtain ⟨W1, hW1⟩ : ∃ X, X = W.alloc (.cells #[.int .i64 l, .slice A2 m c2] 72) := ⟨_, rfl⟩
 have H4 : At W1 W.heap.size [.int .i64 l, .slice A2 m c2] := by rw [hW1]; exact at_new0 _ _ _
 have HB : Bel W W1 := by rw [hW1]; exact (Bel.refl W).al _
 have HW := khide hW1
 obtain ⟨q4, hq4⟩ : ∃ z, z = W.heap.size := ⟨_, rfl⟩
 rw [← hq4] at H4
 clear hW1 tb hs h1 h2 hr1 hr2 hn hm hR
 go_enter Tryz.func5, Tryz.ntmps5
 go_upto_region 1 with fail
 rw [← HW.out, show Value.pointer (some ⟨W.heap.size, 0, none⟩) = Value.pointer (some ⟨q4, 0, none⟩) by rw [hq4]]
 clear hq4 HW
 go_upto_region 3 with (first | (go_at_call 7; (with_reducible refine (CA.out _ HB).mono ?_); rintro e w1 ⟨rfl, hb1⟩) | fail)
 replace H4 := H4.up hb1.hid
 replace HB := HB.up hb1.hid
 clear hb1 CA
 have x0 := H4.c0; have x1 := H4.c1; have xl := H4.lt
 go_upto_region 5 with (first
  | (go_at_call 24; (with_reducible refine (CH1.out _ HB).mono ?_); rintro e w2 ⟨rfl, rfl⟩)
  | (go_at_call 24; (with_reducible refine (CH2.out _ _ (at_new0 _ _ _) (HB.al _)).mono ?_); rintro e w3 ⟨rfl, rfl⟩)
  | fail)
 refine kwp_named ?_
 intro w4 hw4
 replace H4 : At w4 q4 [.int .i64 l, .slice A2 m c2] := by rw [hw4]; exact H4.al _
 replace HB : Bel W w4 := by rw [hw4]; exact HB.al _
 clear hw4 x0 x1 xl CH1 CH2
 go_upto_region 6 with (first | (go_at_call 25; (with_reducible refine (CL1.out _ HB).mono ?_); rintro e w5 ⟨u0, u1, u2, rfl, hld1, hb5⟩) | fail)
 replace H4 := H4.up hb5.hid
 replace HB := HB.up hb5.hid
 clear hb5 CL1
 have HS : Hid (∀ w' : World, Bel w5 w' → w'.cell? ⟨q4, 0, none⟩ = some (.int .i64 l) ∧ w'.cell? ⟨q4, 1, none⟩ = some (.slice A2 m c2)) := fun w' hw => ⟨(hw.cell H4.lt).trans H4.c0, (hw.cell H4.lt).trans H4.c1⟩
 have xl := H4.lt
 go_cut [10, 11, 12] from 33 to 42 (fun a b d w' => ∃ k1 k2, b = .int .i64 k1 ∧ d = .int .i64 k2 ∧ LdV w' res2 a k1 k2 ∧ Bel w5 w')
 case first =>
  refine wp_region_held_drew (S := fun w' => w'.cell? ⟨q4, 0, none⟩ = some (.int .i64 l) ∧ w'.cell? ⟨q4, 1, none⟩ = some (.slice A2 m c2)) (by kernel_rfl) ?_ (fun hHeld => ?_)
  ·exact HS.out _ (Bel.refl _).dr
  refine tq 1 ?_
  refine tq 3 ?_
  refine wpAnyH_ready (rs := [0, 4]) (by decide +kernel) (by simp) ?_
  refine AllReadyH.cons rfl (fun K hK => ?_) (AllReadyH.cons rfl (fun K hK => ?_) (AllReadyH.nil))
  ·(go_simp; refine hK.out _ _ ?_ (fun hHeld => ?_); (focus ((try dsimp only); exact HS.out _ ((Bel.refl w5).al _).dr)); clear hK K; (try simp only [lay7, Act.put]))
   generalize hX1 : (w5.alloc (.cells #[] 72)).drew = X1
   have HX1 : Bel w5 X1 := by rw [← hX1]; exact ((Bel.refl w5).al _).dr
   have own0 : X1.ownsRow w5.heap.size 72 2 (.slice (some ⟨w5.heap.size, 0, none⟩) 0 0) 0 [] := by rw [← hX1]; exact World.ownsRow_made w5 #[] 0 (Nat.le_refl _) (Nat.zero_le _) rfl
   have HL1 : w5.heap.size < X1.heap.size := by rw [← hX1]; simp
   clear hX1
   refine wpAnyH_ready (rs := [2, 4]) (by decide +kernel) (by simp) ?_
   refine AllReadyH.cons rfl (fun K hK => ?_) (AllReadyH.cons rfl (fun K hK => ?_) (AllReadyH.nil))
   ·refine if_plain rfl ?_
    refine wp_rowsT (.tmp 33) (.tmp 34) rfl rfl rfl own0 (hL.keep fun _ hp => (HB.up (Bel.hid HX1)).hid.out.cell hp) HN.out hn60 (Bel.sz HX1) ?_
    intro v1 w6 xs1 ho1 hx1 hg1
    have HX6 : Bel w5 w6 := bel_own HX1 own0 hg1
    refine hK.out _ _ (HS.out _ HX6) (fun hHeld => ?_)
    clear hK K; (try simp only [lay7, Act.put])
    replace hx1 : RX W W.heap.size xs1 rs := rx_back hx1 (HB.up (Bel.hid HX1)).hid
    (refine sk 4 (fun K hK => ?_); go_simp; refine hK.out _ _ ?_ (fun hHeld => ?_); (focus ((try dsimp only); exact HS.out _ (HX6.al _))); clear hK K; (try simp only [lay7, Act.put]))
    have HX7 : Bel w5 (w6.alloc (.cells #[.int .i64 l, .slice A2 m c2] 72)) := HX6.al _
    (refine sk 5 (fun K hK => ?_); refine if_plain rfl ?_; refine wp_rowT (.tmp 35) (.tmp 37) rfl rfl rfl (ho1.alloc _) hn60 (at_new0 _ _ _) (Bel.sz HX7) ?_; intro v2 w8 ho2 hg2; have HX8 : Bel w5 w8 := bel_own HX7 (ho1.alloc _) hg2; refine hK.out _ _ (HS.out _ HX8) (fun hHeld => ?_); clear hK K; (try simp only [lay7, Act.put]))
    obtain ⟨A8, c8, rfl, -, hlw⟩ := lw_own ho2 (by rw [List.length_append, ← HN.out]; rfl) (RX.snoc (l := l) (hx1.keep fun _ hp => (HB.up (Bel.hid HX8)).hid.out.cell hp) HM.out hmc (HRW.out.keep fun _ hp => (HB.up (Bel.hid HX8)).hid.out.cell hp)) (HB.up (Bel.hid HX8)).sz
    (refine sk 6 (fun K hK => ?_); go_simp; (go_at_call 25; refine (CL2.out _ _ _ (HB.up (Bel.hid HX8)) hlw).mono ?_; rintro e w9 ⟨v0, k1, k2, rfl, hld, hb9⟩); (try (go_wp2_with fail)); refine hK.out _ _ ?_ (fun hHeld => ?_); (focus ((try dsimp only); exact HS.out _ (HX8.up (Bel.hid hb9)))); clear hK K; (try simp only [lay7, Act.put]))
    have HX9 : Bel w5 w9 := HX8.up (Bel.hid hb9)
    refine tq 7 ?_
    refine tq 8 ?_
    refine tq 9 ?_
    refine tq 10 ?_
    refine tq 11 ?_
    refine tq 12 ?_
    refine tq 13 ?_
    refine wpAnyH_done (by decide +kernel) ?_ _
    go_wp2_with fail
    go_meet
    case rel => exact ⟨_, _, rfl, rfl, hld, HX9⟩
   ·(go_simp; refine hK.out _ _ ?_ (fun hHeld => ?_); (focus ((try dsimp only); exact HS.out _ (HX1.al _))); clear hK K; (try simp only [lay7, Act.put]))
    generalize hX2 : X1.alloc (.cells #[.int .i64 l, .slice A2 m c2] 72) = X2
    have HX2 : Bel w5 X2 := by rw [← hX2]; exact HX1.al _
    have own1 : X2.ownsRow w5.heap.size 72 2 (.slice (some ⟨w5.heap.size, 0, none⟩) 0 0) 0 [] := by rw [← hX2]; exact own0.alloc _
    have hq0 : At X2 X1.heap.size [.int .i64 l, .slice A2 m c2] := by rw [← hX2]; exact at_new0 _ _ _
    clear hX2
    refine sk 2 (fun K hK => ?_)
    refine if_plain rfl ?_
    refine wp_rowsT (.tmp 33) (.tmp 34) rfl rfl rfl own1 (hL.keep fun _ hp => (HB.up (Bel.hid HX2)).hid.out.cell hp) HN.out hn60 (Bel.sz HX2) ?_
    intro v1 w6 xs1 ho1 hx1 hg1
    have HX6 : Bel w5 w6 := bel_own HX2 own1 hg1
    refine hK.out _ _ (HS.out _ HX6) (fun hHeld => ?_)
    clear hK K; (try simp only [lay7, Act.put])
    replace hx1 : RX W W.heap.size xs1 rs := rx_back hx1 (HB.up (Bel.hid HX2)).hid
    have hq1 := hq0.own hg1 (fun r e => by have e2 : some w5.heap.size = some r := e; injection e2 with e2; omega)
    (refine sk 5 (fun K hK => ?_); refine if_plain rfl ?_; refine wp_rowT (.tmp 35) (.tmp 37) rfl rfl rfl ho1 hn60 hq1 (Bel.sz HX6) ?_; intro v2 w8 ho2 hg2; have HX8 : Bel w5 w8 := bel_own HX6 ho1 hg2; refine hK.out _ _ (HS.out _ HX8) (fun hHeld => ?_); clear hK K; (try simp only [lay7, Act.put]))
    obtain ⟨A8, c8, rfl, -, hlw⟩ := lw_own ho2 (by rw [List.length_append, ← HN.out]; rfl) (RX.snoc (l := l) (hx1.keep fun _ hp => (HB.up (Bel.hid HX8)).hid.out.cell hp) HM.out hmc (HRW.out.keep fun _ hp => (HB.up (Bel.hid HX8)).hid.out.cell hp)) (HB.up (Bel.hid HX8)).sz
    (refine sk 6 (fun K hK => ?_); go_simp; (go_at_call 25; refine (CL2.out _ _ _ (HB.up (Bel.hid HX8)) hlw).mono ?_; rintro e w9 ⟨v0, k1, k2, rfl, hld, hb9⟩); (try (go_wp2_with fail)); refine hK.out _ _ ?_ (fun hHeld => ?_); (focus ((try dsimp only); exact HS.out _ (HX8.up (Bel.hid hb9)))); clear hK K; (try simp only [lay7, Act.put]))
    have HX9 : Bel w5 w9 := HX8.up (Bel.hid hb9)
    refine tq 7 ?_
    refine tq 8 ?_
    refine tq 9 ?_
    refine tq 10 ?_
    refine tq 11 ?_
    refine tq 12 ?_
    refine tq 13 ?_
    refine wpAnyH_done (by decide +kernel) ?_ _
    go_wp2_with fail
    go_meet
    case rel => exact ⟨_, _, rfl, rfl, hld, HX9⟩
  ·(go_simp; refine hK.out _ _ ?_ (fun hHeld => ?_); (focus ((try dsimp only); exact HS.out _ ((Bel.refl w5).al _).dr)); clear hK K; (try simp only [lay7, Act.put]))
   generalize hX1 : (w5.alloc (.cells #[.int .i64 l, .slice A2 m c2] 72)).drew = X1
   have HX1 : Bel w5 X1 := by rw [← hX1]; exact ((Bel.refl w5).al _).dr
   have hq0 : At X1 w5.heap.size [.int .i64 l, .slice A2 m c2] := by rw [← hX1]; exact (at_new0 _ _ _).dr
   clear hX1
   (refine sk 0 (fun K hK => ?_); go_simp; refine hK.out _ _ ?_ (fun hHeld => ?_); (focus ((try dsimp only); exact HS.out _ (HX1.al _))); clear hK K; (try simp only [lay7, Act.put]))
   generalize hX2 : X1.alloc (.cells #[] 72) = X2
   have HX2 : Bel w5 X2 := by rw [← hX2]; exact HX1.al _
   have own1 : X2.ownsRow w5.heap.size 72 2 (.slice (some ⟨X1.heap.size, 0, none⟩) 0 0) 0 [] := by rw [← hX2]; exact World.ownsRow_made X1 #[] 0 HX1.sz (Nat.zero_le _) rfl
   have hq2 : At X2 w5.heap.size [.int .i64 l, .slice A2 m c2] := by rw [← hX2]; exact hq0.al _
   have HL1 : w5.heap.size < X1.heap.size := hq0.lt
   clear hX2
   refine sk 2 (fun K hK => ?_)
   refine if_plain rfl ?_
   refine wp_rowsT (.tmp 33) (.tmp 34) rfl rfl rfl own1 (hL.keep fun _ hp => (HB.up (Bel.hid HX2)).hid.out.cell hp) HN.out hn60 (Bel.sz HX2) ?_
   intro v1 w6 xs1 ho1 hx1 hg1
   have HX6 : Bel w5 w6 := bel_own HX2 own1 hg1
   refine hK.out _ _ (HS.out _ HX6) (fun hHeld => ?_)
   clear hK K; (try simp only [lay7, Act.put])
   replace hx1 : RX W W.heap.size xs1 rs := rx_back hx1 (HB.up (Bel.hid HX2)).hid
   have hq1 := hq2.own hg1 (fun r e => by have e2 : some X1.heap.size = some r := e; injection e2 with e2; omega)
   (refine sk 5 (fun K hK => ?_); refine if_plain rfl ?_; refine wp_rowT (.tmp 35) (.tmp 37) rfl rfl rfl ho1 hn60 hq1 (Bel.sz HX6) ?_; intro v2 w8 ho2 hg2; have HX8 : Bel w5 w8 := bel_own HX6 ho1 hg2; refine hK.out _ _ (HS.out _ HX8) (fun hHeld => ?_); clear hK K; (try simp only [lay7, Act.put]))
   obtain ⟨A8, c8, rfl, -, hlw⟩ := lw_own ho2 (by rw [List.length_append, ← HN.out]; rfl) (RX.snoc (l := l) (hx1.keep fun _ hp => (HB.up (Bel.hid HX8)).hid.out.cell hp) HM.out hmc (HRW.out.keep fun _ hp => (HB.up (Bel.hid HX8)).hid.out.cell hp)) (HB.up (Bel.hid HX8)).sz
   (refine sk 6 (fun K hK => ?_); go_simp; (go_at_call 25; refine (CL2.out _ _ _ (HB.up (Bel.hid HX8)) hlw).mono ?_; rintro e w9 ⟨v0, k1, k2, rfl, hld, hb9⟩); (try (go_wp2_with fail)); refine hK.out _ _ ?_ (fun hHeld => ?_); (focus ((try dsimp only); exact HS.out _ (HX8.up (Bel.hid hb9)))); clear hK K; (try simp only [lay7, Act.put]))
   have HX9 : Bel w5 w9 := HX8.up (Bel.hid hb9)
   refine tq 7 ?_
   refine tq 8 ?_
   refine tq 9 ?_
   refine tq 10 ?_
   refine tq 11 ?_
   refine tq 12 ?_
   refine tq 13 ?_
   refine wpAnyH_done (by decide +kernel) ?_ _
   go_wp2_with fail
   go_meet
   case rel => exact ⟨_, _, rfl, rfl, hld, HX9⟩
 case rest =>
 obtain ⟨k1, k2, rfl, rfl, hld2, hw6⟩ := hcut
 replace hld1 := hld1.up hw6.hid
 replace HB := HB.up hw6.hid
 clear hw6 HS H4 xl hL CL2 hmc hn60
 rcases HRS.out with ⟨z, rfl, rfl, hz⟩ | ⟨T, z, rfl, rfl, hz⟩ | ⟨T, T2, rfl, rfl, hk⟩
 ·obtain ⟨rfl, rfl, rfl⟩ := hld1
  obtain ⟨rfl, rfl, rfl⟩ := hld2
  obtain ⟨z1, z2⟩ := z
  have d0 : (z2 != 0) = true := by rw [bne_iff_ne]; exact hz
  have d1 : (z2 == 0) = false := by rw [beq_eq_false_iff_ne]; exact hz
  have vv : (z2 == z2) = true := by simp
  clear hz HRS CE CC
  go_wp2_with fail
  go_ret
  exact ⟨rfl, HB⟩
 ·obtain ⟨_, p, x, rfl, rfl, rfl, ht⟩ := hld1
  obtain ⟨rfl, rfl, rfl⟩ := hld2
  obtain ⟨z1, z2⟩ := z
  have d0 : (z2 != 0) = true := by rw [bne_iff_ne]; exact hz
  have d1 : (z2 == 0) = false := by rw [beq_eq_false_iff_ne]; exact hz
  clear hz HRS CE CC ht
  go_wp2_with fail
  go_ret
  exact ⟨rfl, HB⟩
 ·obtain ⟨_, p, x, rfl, rfl, rfl, ht⟩ := hld1
  obtain ⟨_, p2, x2, rfl, rfl, rfl, ht2⟩ := hld2
  have HK := khide hk
  clear HRS hk
  go_upto_region 14 with (first | (go_at_call 16; (with_reducible refine (CE.out _ _ _ _ _ ht).mono ?_); rintro e wa ⟨nma, ida, baa, ba, Aa, na, ca, Aa', na', ca', ea, Ba, ka, da, Ba', ka', da', hoa, oka, rfl, hoka, hma, hba⟩; replace hoka := khide hoka; replace hma := khide hma) | (refine wpList_store_new 55 [.string nma, .string ida, .int .i64 baa, .bool ba, .slice Aa na ca, .slice Aa' na' ca', .bool ea, .slice Ba ka da, .slice Ba' ka' da', .bool hoa] (.tmp 13) (.tmp 60) _ rfl rfl rfl rfl (by kernel_rfl) rfl rfl ?_) | fail)
  refine kwp_named ?_
  intro wb hwb
  have HE : At wb wa.heap.size [.string nma, .string ida, .int .i64 baa, .bool ba, .slice Aa na ca, .slice Aa' na' ca', .bool ea, .slice Ba ka da, .slice Ba' ka' da', .bool hoa] := by rw [hwb]; exact at_new0 _ _ _
  replace ht2 := by have h3 := (ht2.up hba.hid).al (.cells #[.string nma, .string ida, .int .i64 baa, .bool ba, .slice Aa na ca, .slice Aa' na' ca', .bool ea, .slice Ba ka da, .slice Ba' ka' da', .bool hoa] 55); rwa [← hwb] at h3
  replace HB : Bel W wb := by rw [hwb]; exact (HB.up hba.hid).al _
  replace hma : ∀ m, lookL T.ents s = some m → ida = m.id ∧ baa = m.base ∧ QA wb ba Aa na ca Aa' na' ca' m.fac 101 := fun m hm => by rw [hwb]; exact ⟨(hma.out m hm).1, (hma.out m hm).2.1, (hma.out m hm).2.2.al _⟩
  obtain ⟨qa, hqa⟩ : ∃ z, z = wa.heap.size := ⟨_, rfl⟩
  rw [← hqa] at HE ⊢
  clear hwb hqa hba ht
  have HMA := khide hma
  have HOA := hoka
  clear hma hoka
  go_upto_region 15 with (first | (go_at_call 16; (with_reducible refine (CE.out _ _ _ _ _ ht2).mono ?_); rintro e wc ⟨nmb, idb, bab, bb, Ab, nb, cb, Ab', nb', cb', eb, Bb, kb, db, Bb', kb', db', hob, okb, rfl, hokb, hmb, hbb⟩; replace hokb := khide hokb; replace hmb := khide hmb) | (refine wpList_store_new 55 [.string nmb, .string idb, .int .i64 bab, .bool bb, .slice Ab nb cb, .slice Ab' nb' cb', .bool eb, .slice Bb kb db, .slice Bb' kb' db', .bool hob] (.tmp 15) (.tmp 66) _ rfl rfl rfl rfl (by kernel_rfl) rfl rfl ?_) | fail)
  refine kwp_named ?_
  intro wd hwd
  have HF : At wd wc.heap.size [.string nmb, .string idb, .int .i64 bab, .bool bb, .slice Ab nb cb, .slice Ab' nb' cb', .bool eb, .slice Bb kb db, .slice Bb' kb' db', .bool hob] := by rw [hwd]; exact at_new0 _ _ _
  have hbd : Bel wb wd := by rw [hwd]; exact ((Bel.refl wb).up hbb.hid).al _
  replace HE := HE.up (Bel.hid hbd)
  replace HB := HB.up (Bel.hid hbd)
  replace hmb : ∀ m, lookL T2.ents s = some m → idb = m.id ∧ bab = m.base ∧ QA wd bb Ab nb cb Ab' nb' cb' m.fac 101 := fun m hm => by rw [hwd]; exact ⟨(hmb.out m hm).1, (hmb.out m hm).2.1, (hmb.out m hm).2.2.al _⟩
  obtain ⟨qb, hqb⟩ : ∃ z, z = wc.heap.size := ⟨_, rfl⟩
  rw [← hqb] at HF ⊢
  clear hwd hqb hbb ht2 CE
  cases hlook : lookL T.ents s with
  | none =>
    obtain rfl : oka = false := by rw [HOA.out, hlook]; rfl
    clear hmb hokb HMA HOA HK hlook hbd CC
    go_wp2_with fail
    go_ret
    exact ⟨rfl, HB⟩
  | some e0 =>
    obtain rfl : oka = true := by rw [HOA.out, hlook]; rfl
    have h2 := HK.out _ hlook
    obtain rfl : okb = true := by rw [hokb.out, h2]; rfl
    obtain ⟨g1, g2, g3⟩ := HMA.out _ hlook
    obtain ⟨g4, g5, g6⟩ := hmb _ h2
    obtain ⟨id0, hid0⟩ : ∃ z, z = e0.id := ⟨_, rfl⟩
    obtain ⟨ba0, hba0⟩ : ∃ z, z = e0.base := ⟨_, rfl⟩
    obtain ⟨r0, hr0⟩ : ∃ z, z = e0.fac := ⟨_, rfl⟩
    rw [← hid0] at g1 g4
    rw [← hba0] at g2 g5
    rw [← hr0] at g3 g6
    obtain rfl : id0 = ida := g1.symm
    obtain rfl : id0 = idb := g4.symm
    obtain rfl : ba0 = baa := g2.symm
    obtain rfl : ba0 = bab := g5.symm
    have CC2 : Hid (Calls Tryz.prog 26 #[.agg #[.bool ba, .slice Aa na ca, .slice Aa' na' ca'], .agg #[.bool bb, .slice Ab nb cb, .slice Ab' nb' cb']] wd (IntPost wd 0)) := CC.out _ _ _ _ _ _ _ _ _ _ _ _ _ _ _ _ (g3.up hbd.hid) g6
    have vb : (ba0 == ba0) = true := by simp
    clear h2 g3 g6 hid0 hba0 hr0 hmb hokb HMA HOA HK hlook hbd CC
    have e1 := HE.c1; have e2 := HE.c2; have e3 := at_nth HE 3 rfl; have e4 := at_nth HE 4 rfl; have e5 := at_nth HE 5 rfl; have el := HE.lt
    have f1 := HF.c1; have f2 := HF.c2; have f3 := at_nth HF 3 rfl; have f4 := at_nth HF 4 rfl; have f5 := at_nth HF 5 rfl; have fl := HF.lt
    go_wp2_with (first | (go_at_call 26; (with_reducible refine CC2.out.mono ?_); rintro e we ⟨rfl, hbe⟩; replace HE := HE.up (Bel.hid hbe); replace HF := HF.up (Bel.hid hbe); replace HB := HB.up (Bel.hid hbe); clear e1 e2 e3 e4 e5 el f1 f2 f3 f4 f5 fl; have e1 := HE.c1; have e2 := HE.c2; have el := HE.lt; have f1 := HF.c1; have f2 := HF.c2; have fl := HF.lt) | fail)
    go_ret
    exact ⟨rfl, HB⟩
theorem twice_law (tb : Tabs W) (hL : LW W W.heap.size A rs) (hn : n = rs.length) (hR : RS W W.heap.size A2 ws) (hm : m = ws.length) (hmc : m ≤ c2) (hs : s.size ≤ 9223372036854775807) :
 Calls Tryz.prog 5 #[.slice A n c, .agg #[.int .i64 l, .slice A2 m c2], .string s] W (RetB W true) := by
 by_cases h1 : Light rs
 ·by_cases h2 : Light [(l, ws)]
  ·exact twice_main tb hL hn hR hm hmc hs h1 h2 rfl rfl
  have CA : Hid (∀ W', Bel W W' → Calls Tryz.prog 7 #[] W' (RetB W' true)) := fun W' hb => awake_h (tb.up hb.hid)
  have CH1 : Hid (∀ W', Bel W W' → Calls Tryz.prog 24 #[.slice A n c] W' (fun e w' => e = .returned (.bool false) ∧ w' = W')) := fun W' hb => (heavy_h (LW.more (hL.keep fun _ hp => hb.hid.out.cell hp) hb.sz) hn).mono (by
   rintro e w' ⟨b, h3, h4, h5⟩; rw [h4.2 h1] at h3; exact ⟨h3, h5⟩)
  have CH2 : Hid (∀ W' q, At W' q [.int .i64 l, .slice A2 m c2] → Bel W W' → Calls Tryz.prog 24 #[.slice (some ⟨q, 0, none⟩) 1 1] W' (fun e w' => e = .returned (.bool true) ∧ w' = W')) := fun W' q hq hb => (heavy_h (rs := [(l, ws)]) (lw_one hq hm hmc ((hR.keep fun _ hp => hb.hid.out.cell hp).more hb.sz)) rfl).mono (by
   rintro e w' ⟨b, h3, h4, h5⟩
   cases b with
   | false => exact absurd (h4.1 rfl) h2
   | true => exact ⟨h3, h5⟩)
  obtain ⟨W1, hW1⟩ : ∃ X, X = W.alloc (.cells #[.int .i64 l, .slice A2 m c2] 72) := ⟨_, rfl⟩
  have H4 : At W1 W.heap.size [.int .i64 l, .slice A2 m c2] := by rw [hW1]; exact at_new0 _ _ _
  have HB : Bel W W1 := by rw [hW1]; exact (Bel.refl W).al _
  have HW := khide hW1
  obtain ⟨q4, hq4⟩ : ∃ z, z = W.heap.size := ⟨_, rfl⟩
  rw [← hq4] at H4
  clear hW1 tb hs h1 h2 hn hm hR hL hmc
  go_enter Tryz.func5, Tryz.ntmps5
  go_upto_region 1 with fail
  rw [← HW.out, show Value.pointer (some ⟨W.heap.size, 0, none⟩) = Value.pointer (some ⟨q4, 0, none⟩) by rw [hq4]]
  clear hq4 HW
  go_upto_region 3 with (first | (go_at_call 7; (with_reducible refine (CA.out _ HB).mono ?_); rintro e w1 ⟨rfl, hb1⟩) | fail)
  replace H4 := H4.up hb1.hid
  replace HB := HB.up hb1.hid
  clear hb1 CA
  have x0 := H4.c0; have x1 := H4.c1; have xl := H4.lt
  go_wp2_with (first
   | (go_at_call 24; (with_reducible refine (CH1.out _ HB).mono ?_); rintro e w2 ⟨rfl, rfl⟩)
   | (go_at_call 24; (with_reducible refine (CH2.out _ _ (at_new0 _ _ _) (HB.al _)).mono ?_); rintro e w3 ⟨rfl, rfl⟩)
   | fail)
  go_ret
  exact ⟨rfl, HB.al _⟩
 have CA : Hid (∀ W', Bel W W' → Calls Tryz.prog 7 #[] W' (RetB W' true)) := fun W' hb => awake_h (tb.up hb.hid)
 have CH1 : Hid (∀ W', Bel W W' → Calls Tryz.prog 24 #[.slice A n c] W' (fun e w' => e = .returned (.bool true) ∧ w' = W')) := fun W' hb => (heavy_h (LW.more (hL.keep fun _ hp => hb.hid.out.cell hp) hb.sz) hn).mono (by
  rintro e w' ⟨b, h3, h4, h5⟩
  cases b with
  | false => exact absurd (h4.1 rfl) h1
  | true => exact ⟨h3, h5⟩)
 obtain ⟨W1, hW1⟩ : ∃ X, X = W.alloc (.cells #[.int .i64 l, .slice A2 m c2] 72) := ⟨_, rfl⟩
 have HB : Bel W W1 := by rw [hW1]; exact (Bel.refl W).al _
 have HW := khide hW1
 clear hW1 tb hs h1 hn hm hR hL hmc
 go_enter Tryz.func5, Tryz.ntmps5
 go_upto_region 1 with fail
 rw [← HW.out]
 go_wp2_with (first
  | (go_at_call 7; (with_reducible refine (CA.out _ HB).mono ?_); rintro e w1 ⟨rfl, hb1⟩; replace HB := HB.up hb1.hid)
  | (go_at_call 24; (with_reducible refine (CH1.out _ HB).mono ?_); rintro e w2 ⟨rfl, rfl⟩)
  | fail)
 go_ret
 exact ⟨rfl, HB⟩
end
end Go.Proofs.YtfflmmbhpchloaaGreatDoor
end
