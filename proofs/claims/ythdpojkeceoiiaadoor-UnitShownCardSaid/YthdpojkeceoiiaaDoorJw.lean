/- The law UnitShown. No conditions. -/
import Derived.Test.YthdpojkeceoiiaaDoorGJwc24
import Derived.Test.YthdpojkeceoiiaaDoorGJwc23
import Derived.Deep.RegionHeld
open Go.RowKit
set_option maxRecDepth 100000
namespace Go.Proofs.YthdpojkeceoiiaaDoor
theorem seqT {s t : ByteArray} : (s.toList == t.toList) = decide (s = t) := by
  rw [Bool.eq_iff_iff]
  simp only [beq_iff_eq, decide_eq_true_eq]
  constructor
  · intro e
    rw [Lib.toList_data, Lib.toList_data] at e
    exact ByteArray.ext (Array.ext' e)
  · intro e; rw [e]
/-- A text's unit, read in any world. -/
abbrev PUnit (s : ByteArray) (n : Nat) (qs : List QL) : Prop := ∀ (W : World) (A B : Option Addr), Ss W A uN → Ss W B uP → Calls Tryd.prog 5 #[.agg #[.slice A 3 3, .slice B 2 2], .string s] W (fun e w' => ∃ g c, e = .returned (.tuple #[.agg #[.slice (some ⟨g, 0, none⟩) n c], .int .i64 0]) ∧ Hid (W.heap.size ≤ g) ∧ Qs w' (some ⟨g, 0, none⟩) qs ∧ Bel W w')
abbrev PUnitE (s : ByteArray) (v : Int) : Prop := ∀ (W : World) (A B : Option Addr), Ss W A uN → Ss W B uP → Calls Tryd.prog 5 #[.agg #[.slice A 3 3, .slice B 2 2], .string s] W (fun e w' => e = .returned (.tuple #[.agg #[.slice none 0 0], .int .i64 v]) ∧ Bel W w')
abbrev SUnit (s : ByteArray) (n : Nat) (qs : List QL) : Prop := ∀ (W : World) (g c : Nat), Qs W (some ⟨g, 0, none⟩) qs → Calls Tryd.prog 7 #[.agg #[.slice (some ⟨g, 0, none⟩) n c]] W (StrR W s)
abbrev OUnit (n : Nat) (qs : List QL) (r : List PL) : Prop := ∀ (W : World) (g c : Nat), Qs W (some ⟨g, 0, none⟩) qs → Calls Tryd.prog 9 #[.agg #[.slice (some ⟨g, 0, none⟩) n c]] W (fun e w' => ∃ R c', e = .returned (.slice R n c') ∧ Ps w' R r ∧ Bel W w')
theorem pUnit_ok {s : ByteArray} {r : List PL} {n : Nat} (hD : unitD uN uP s = .ok r) (hn : r.length = n) : PUnit s n (r.map ofP) := fun W A B h h' => by
  have h9 := uparse_any (s := s) (c := 3) (d := 2) h rfl (by decide) h' rfl (by decide)
  rw [hD] at h9
  refine h9.mono fun e w' h8 => ?_
  obtain ⟨g, c, e1, _, e3, e4, e5⟩ := h8
  exact ⟨g, c, hn ▸ e1, e3, e4, e5⟩
theorem pUnit_err {s : ByteArray} {v : Int} (hD : unitD uN uP s = .error v) : PUnitE s v := fun W A B h h' => by
  have h9 := uparse_any (s := s) (c := 3) (d := 2) h rfl (by decide) h' rfl (by decide)
  rw [hD] at h9
  exact h9
theorem unitD_lens {names ps : List ByteArray} {s : ByteArray} {r : List PL} (hD : unitD names ps s = .ok r) : (∀ q ∈ r.map ofP, LenQ q) ∧ (∀ q ∈ r.map ofP, Good32 q.2.2) ∧ (r.map ofP).any greatQ = false ∧ (r.map ofP).map toP = r ∧ LenP r ∧ r.length ≤ 4 := by
  obtain ⟨k1, k2, k3, k4⟩ := unitD_ok hD
  have hok := partsL_ok k3
  refine ⟨fun q hq => ?_, fun q hq => ?_, greats_of k3 (fun l hl x hx => goodAll_size k2 x (cutBy_mem _ l hl x hx)), map_back (fun p hp => (hok p hp).1), fun p hp => ?_, k4⟩
  · obtain ⟨p, hp, rfl⟩ := List.mem_map.1 hq
    have := (hok p hp).2
    exact ⟨by show p.1.length ≤ _; omega, by show p.2.1.length ≤ _; omega⟩
  · obtain ⟨p, _, rfl⟩ := List.mem_map.1 hq
    exact digs_good _
  · have := (hok p hp).2; omega
theorem sUnit_ok {s : ByteArray} {r : List PL} {n : Nat} (hD : unitD uN uP s = .ok r) (hn : r.length = n) : SUnit s n (r.map ofP) := fun W g c h => by
  obtain ⟨_, hw, hgr, hmap, _, h4⟩ := unitD_lens hD
  have h9 := great_show (e := c) h (show n = (r.map ofP).length by rw [List.length_map, hn]) (by omega) hgr hw
  rwa [hmap, unit_back hD] at h9
theorem oUnit_ok {s : ByteArray} {r : List PL} {n : Nat} (hD : unitD uN uP s = .ok r) (hn : r.length = n) : OUnit n (r.map ofP) r := fun W g c h => by
  obtain ⟨hl, hw, hgr, hmap, _, h4⟩ := unitD_lens hD
  refine (partsOf_any (c := c) h (show n = (r.map ofP).length by rw [List.length_map, hn]) (by omega) hl).mono fun e w' h9 => ?_
  rw [hmap] at h9
  obtain ⟨R, c', z, e1, e2, e3, e4⟩ := h9
  exact ⟨R, c', by rw [e2, e1.out, hn], e3, e4⟩
section
variable {s t : ByteArray} {w : World}
set_option maxHeartbeats 2000000 in
theorem ushown_long (h : 200 < s.size ∨ 200 < t.size) : Calls Tryd.prog 3 #[.string s, .string t] w (RetB w true) := by
  have CA : Hid (∀ W : World, Calls Tryd.prog 4 #[] W (RetB W true)) := awake10_h
  have HB := Bel.refl w
  by_cases h1 : 200 < s.size
  · have d1 : decide ((200 : Int) < (s.size : Int)) = true := decide_eq_true (by omega)
    clear h h1
    go_enter Tryd.func3, Tryd.ntmps3
    go_wp2_with (first | (go_at_call 4; (with_reducible refine (CA.out _).mono ?_); rintro e w1 ⟨rfl, hb⟩; (replace HB := HB.up hb.hid)) | fail)
    go_ret
    exact ⟨rfl, HB⟩
  · have d1 : decide ((200 : Int) < (s.size : Int)) = false := decide_eq_false (by omega)
    have d2 : decide ((200 : Int) < (t.size : Int)) = true := decide_eq_true (by omega)
    clear h h1
    go_enter Tryd.func3, Tryd.ntmps3
    go_wp2_with (first | (go_at_call 4; (with_reducible refine (CA.out _).mono ?_); rintro e w1 ⟨rfl, hb⟩; (replace HB := HB.up hb.hid)) | fail)
    go_ret
    exact ⟨rfl, HB⟩
set_option maxHeartbeats 4000000 in
theorem ushown_ee {v v2 : Int} (h1 : unitD uN uP s = .error v) (h2 : unitD uN uP t = .error v2) (hs : ¬ 200 < s.size) (ht : ¬ 200 < t.size) : Calls Tryd.prog 3 #[.string s, .string t] w (RetB w true) := by
  have CA : Hid (∀ W : World, Calls Tryd.prog 4 #[] W (RetB W true)) := awake10_h
  have CM : Hid (∀ W : World, Calls Tryd.prog 6 #[] W (SomeU W)) := some10_h
  have d1 : decide ((200 : Int) < (s.size : Int)) = false := decide_eq_false (by omega)
  have d2 : decide ((200 : Int) < (t.size : Int)) = false := decide_eq_false (by omega)
  have q0 : (v == 0) = false := by rcases unitD_err h1 with rfl | rfl <;> rfl
  have q1 : (v != 0) = true := by rcases unitD_err h1 with rfl | rfl <;> rfl
  have CP : Hid (PUnitE s v) := pUnit_err h1
  have CP2 : Hid (PUnitE t v2) := pUnit_err h2
  have HB := Bel.refl w
  clear h1 h2 hs ht
  go_enter Tryd.func3, Tryd.ntmps3
  go_upto_region 6 with (first | (go_at_call 4; (with_reducible refine (CA.out _).mono ?_); rintro e w1 ⟨rfl, hb⟩; (replace HB := HB.up hb.hid)) | (go_at_call 6; (with_reducible refine (CM.out _).mono ?_); rintro e w2 ⟨A, B, rfl, HN, HP, hb⟩; (replace HB := HB.up hb.hid)) | (go_at_call 5; (with_reducible refine (CP.out _ _ _ HN HP).mono ?_); rintro e w3 ⟨rfl, hb⟩; (replace HB := HB.up hb.hid)) | fail)
  refine kwp_named ?_
  intro W4 hW4
  have HU : At W4 w3.heap.size [.slice none 0 0] := by rw [hW4]; exact at_new0 _ _ _
  replace HB : Bel w W4 := by rw [hW4]; exact HB.al _
  obtain ⟨p, hp⟩ : ∃ p, p = w3.heap.size := ⟨_, rfl⟩
  rw [← hp] at HU ⊢
  clear hW4 hp HN HP hb
  go_upto_region 7 with (first | (go_at_call 6; (with_reducible refine (CM.out _).mono ?_); rintro e w2 ⟨A, B, rfl, HN, HP, hb⟩; (replace HB := HB.up hb.hid); replace HU := HU.up hb.hid) | (go_at_call 5; (with_reducible refine (CP2.out _ _ _ HN HP).mono ?_); rintro e w6 ⟨rfl, hb⟩; (replace HB := HB.up hb.hid); replace HU := HU.up hb.hid) | fail)
  refine kwp_named ?_
  intro W7 hW7
  have HV : At W7 w6.heap.size [.slice none 0 0] := by rw [hW7]; exact at_new0 _ _ _
  replace HB : Bel w W7 := by rw [hW7]; exact HB.al _
  replace HU : At W7 p [.slice none 0 0] := by rw [hW7]; exact HU.al _
  obtain ⟨pb, hpb⟩ : ∃ p, p = w6.heap.size := ⟨_, rfl⟩
  rw [← hpb] at HV ⊢
  clear hW7 hpb HN HP hb
  go_wp2_with fail
  go_ret
  exact ⟨rfl, HB⟩
set_option maxHeartbeats 4000000 in
theorem ushown_eo {v : Int} {r2 : List PL} (h1 : unitD uN uP s = .error v) (h2 : unitD uN uP t = .ok r2) (hs : ¬ 200 < s.size) (ht : ¬ 200 < t.size) : Calls Tryd.prog 3 #[.string s, .string t] w (RetB w true) := by
  have CA : Hid (∀ W : World, Calls Tryd.prog 4 #[] W (RetB W true)) := awake10_h
  have CM : Hid (∀ W : World, Calls Tryd.prog 6 #[] W (SomeU W)) := some10_h
  have d1 : decide ((200 : Int) < (s.size : Int)) = false := decide_eq_false (by omega)
  have d2 : decide ((200 : Int) < (t.size : Int)) = false := decide_eq_false (by omega)
  have q0 : (v == 0) = false := by rcases unitD_err h1 with rfl | rfl <;> rfl
  have q1 : (v != 0) = true := by rcases unitD_err h1 with rfl | rfl <;> rfl
  have CP : Hid (PUnitE s v) := pUnit_err h1
  obtain ⟨n2, hn2⟩ : ∃ n, r2.length = n := ⟨_, rfl⟩
  obtain ⟨qs2, hqs2⟩ : ∃ qs, r2.map ofP = qs := ⟨_, rfl⟩
  have CP2 : Hid (PUnit t n2 qs2) := hqs2 ▸ pUnit_ok h2 hn2
  have HB := Bel.refl w
  clear h1 h2 hs ht hn2 hqs2
  go_enter Tryd.func3, Tryd.ntmps3
  go_upto_region 6 with (first | (go_at_call 4; (with_reducible refine (CA.out _).mono ?_); rintro e w1 ⟨rfl, hb⟩; (replace HB := HB.up hb.hid)) | (go_at_call 6; (with_reducible refine (CM.out _).mono ?_); rintro e w2 ⟨A, B, rfl, HN, HP, hb⟩; (replace HB := HB.up hb.hid)) | (go_at_call 5; (with_reducible refine (CP.out _ _ _ HN HP).mono ?_); rintro e w3 ⟨rfl, hb⟩; (replace HB := HB.up hb.hid)) | fail)
  refine kwp_named ?_
  intro W4 hW4
  have HU : At W4 w3.heap.size [.slice none 0 0] := by rw [hW4]; exact at_new0 _ _ _
  replace HB : Bel w W4 := by rw [hW4]; exact HB.al _
  obtain ⟨p, hp⟩ : ∃ p, p = w3.heap.size := ⟨_, rfl⟩
  rw [← hp] at HU ⊢
  clear hW4 hp HN HP hb
  go_upto_region 7 with (first | (go_at_call 6; (with_reducible refine (CM.out _).mono ?_); rintro e w2 ⟨A, B, rfl, HN, HP, hb⟩; (replace HB := HB.up hb.hid); replace HU := HU.up hb.hid) | (go_at_call 5; (with_reducible refine (CP2.out _ _ _ HN HP).mono ?_); rintro e w6 ⟨g2, c2, rfl, -, HQ2, hb⟩; (replace HB := HB.up hb.hid); replace HU := HU.up hb.hid) | fail)
  refine kwp_named ?_
  intro W7 hW7
  have HV : At W7 w6.heap.size [.slice (some ⟨g2, 0, none⟩) n2 c2] := by rw [hW7]; exact at_new0 _ _ _
  replace HB : Bel w W7 := by rw [hW7]; exact HB.al _
  replace HU : At W7 p [.slice none 0 0] := by rw [hW7]; exact HU.al _
  replace HQ2 : Qs W7 (some ⟨g2, 0, none⟩) qs2 := by rw [hW7]; exact HQ2.al _
  obtain ⟨pb, hpb⟩ : ∃ p, p = w6.heap.size := ⟨_, rfl⟩
  rw [← hpb] at HV ⊢
  clear hW7 hpb HN HP hb
  go_wp2_with fail
  go_ret
  exact ⟨rfl, HB⟩
set_option maxHeartbeats 4000000 in
theorem ushown_oe {v : Int} {r : List PL} (h1 : unitD uN uP s = .ok r) (h2 : unitD uN uP t = .error v) (hs : ¬ 200 < s.size) (ht : ¬ 200 < t.size) : Calls Tryd.prog 3 #[.string s, .string t] w (RetB w true) := by
  have CA : Hid (∀ W : World, Calls Tryd.prog 4 #[] W (RetB W true)) := awake10_h
  have CM : Hid (∀ W : World, Calls Tryd.prog 6 #[] W (SomeU W)) := some10_h
  have d1 : decide ((200 : Int) < (s.size : Int)) = false := decide_eq_false (by omega)
  have d2 : decide ((200 : Int) < (t.size : Int)) = false := decide_eq_false (by omega)
  have q0 : (v == 0) = false := by rcases unitD_err h2 with rfl | rfl <;> rfl
  have q1 : (v != 0) = true := by rcases unitD_err h2 with rfl | rfl <;> rfl
  obtain ⟨n, hn⟩ : ∃ n, r.length = n := ⟨_, rfl⟩
  obtain ⟨qs, hqs⟩ : ∃ qs, r.map ofP = qs := ⟨_, rfl⟩
  have CP : Hid (PUnit s n qs) := hqs ▸ pUnit_ok h1 hn
  have CP2 : Hid (PUnitE t v) := pUnit_err h2
  have HB := Bel.refl w
  clear h1 h2 hs ht hn hqs
  go_enter Tryd.func3, Tryd.ntmps3
  go_upto_region 6 with (first | (go_at_call 4; (with_reducible refine (CA.out _).mono ?_); rintro e w1 ⟨rfl, hb⟩; (replace HB := HB.up hb.hid)) | (go_at_call 6; (with_reducible refine (CM.out _).mono ?_); rintro e w2 ⟨A, B, rfl, HN, HP, hb⟩; (replace HB := HB.up hb.hid)) | (go_at_call 5; (with_reducible refine (CP.out _ _ _ HN HP).mono ?_); rintro e w3 ⟨g, c, rfl, -, HQ, hb⟩; (replace HB := HB.up hb.hid)) | fail)
  refine kwp_named ?_
  intro W4 hW4
  have HU : At W4 w3.heap.size [.slice (some ⟨g, 0, none⟩) n c] := by rw [hW4]; exact at_new0 _ _ _
  replace HQ : Qs W4 (some ⟨g, 0, none⟩) qs := by rw [hW4]; exact HQ.al _
  replace HB : Bel w W4 := by rw [hW4]; exact HB.al _
  obtain ⟨p, hp⟩ : ∃ p, p = w3.heap.size := ⟨_, rfl⟩
  rw [← hp] at HU ⊢
  clear hW4 hp HN HP hb
  go_upto_region 7 with (first | (go_at_call 6; (with_reducible refine (CM.out _).mono ?_); rintro e w2 ⟨A, B, rfl, HN, HP, hb⟩; (replace HB := HB.up hb.hid); replace HU := HU.up hb.hid; replace HQ := HQ.up hb.hid) | (go_at_call 5; (with_reducible refine (CP2.out _ _ _ HN HP).mono ?_); rintro e w6 ⟨rfl, hb⟩; (replace HB := HB.up hb.hid); replace HU := HU.up hb.hid; replace HQ := HQ.up hb.hid) | fail)
  refine kwp_named ?_
  intro W7 hW7
  have HV : At W7 w6.heap.size [.slice none 0 0] := by rw [hW7]; exact at_new0 _ _ _
  replace HB : Bel w W7 := by rw [hW7]; exact HB.al _
  replace HU : At W7 p [.slice (some ⟨g, 0, none⟩) n c] := by rw [hW7]; exact HU.al _
  replace HQ : Qs W7 (some ⟨g, 0, none⟩) qs := by rw [hW7]; exact HQ.al _
  obtain ⟨pb, hpb⟩ : ∃ p, p = w6.heap.size := ⟨_, rfl⟩
  rw [← hpb] at HV ⊢
  clear hW7 hpb HN HP hb
  go_wp2_with fail
  go_ret
  exact ⟨rfl, HB⟩
set_option maxHeartbeats 8000000 in
theorem ushown_oo {r r2 : List PL} {x : Bool} (h1 : unitD uN uP s = .ok r) (h2 : unitD uN uP t = .ok r2) (hs : ¬ 200 < s.size) (ht : ¬ 200 < t.size) (hx : decide (s = t) = x) : Calls Tryd.prog 3 #[.string s, .string t] w (RetB w true) := by
  have CA : Hid (∀ W : World, Calls Tryd.prog 4 #[] W (RetB W true)) := awake10_h
  have CM : Hid (∀ W : World, Calls Tryd.prog 6 #[] W (SomeU W)) := some10_h
  have d1 : decide ((200 : Int) < (s.size : Int)) = false := decide_eq_false (by omega)
  have d2 : decide ((200 : Int) < (t.size : Int)) = false := decide_eq_false (by omega)
  obtain ⟨n, hn⟩ : ∃ n, r.length = n := ⟨_, rfl⟩
  obtain ⟨n2, hn2⟩ : ∃ n, r2.length = n := ⟨_, rfl⟩
  have hsame : sameP r r2 = x := by
    rw [← hx]
    unfold sameP
    exact decide_eq_decide.2 ⟨fun e => by rw [← unit_back h1, ← unit_back h2, e], fun e => by rw [e, h2] at h1; injection h1 with h1; exact h1.symm⟩
  obtain ⟨_, _, _, _, l1, l4⟩ := unitD_lens h1
  obtain ⟨_, _, _, _, l2, l5⟩ := unitD_lens h2
  have CE : Hid (∀ (W : World) (R R' : Option Addr) (c c' : Nat), Ps W R r → Ps W R' r2 → Calls Tryd.prog 8 #[.slice R n c, .slice R' n2 c'] W (RetB W x)) := fun W R R' c c' k1 k2 =>
    hsame ▸ (sameParts_any k1 k2 hn.symm hn2.symm (by omega) (by omega) l1 l2).mono fun e w' h9 => ⟨h9.1, bel_drewN (h9.2.choose_spec)⟩
  obtain ⟨qs, hqs⟩ : ∃ qs, r.map ofP = qs := ⟨_, rfl⟩
  obtain ⟨qs2, hqs2⟩ : ∃ qs, r2.map ofP = qs := ⟨_, rfl⟩
  have CP : Hid (PUnit s n qs) := hqs ▸ pUnit_ok h1 hn
  have CP2 : Hid (PUnit t n2 qs2) := hqs2 ▸ pUnit_ok h2 hn2
  have CS : Hid (SUnit s n qs) := hqs ▸ sUnit_ok h1 hn
  have CS2 : Hid (SUnit t n2 qs2) := hqs2 ▸ sUnit_ok h2 hn2
  have CO : Hid (OUnit n qs r) := hqs ▸ oUnit_ok h1 hn
  have CO2 : Hid (OUnit n2 qs2 r2) := hqs2 ▸ oUnit_ok h2 hn2
  have sx : (s.toList == t.toList) = x := seqT.trans hx
  have HB := Bel.refl w
  clear h1 h2 hs ht hn hqs hn2 hqs2 hx hsame l1 l2 l4 l5
  go_enter Tryd.func3, Tryd.ntmps3
  go_upto_region 6 with (first | (go_at_call 4; (with_reducible refine (CA.out _).mono ?_); rintro e w1 ⟨rfl, hb⟩; (replace HB := HB.up hb.hid)) | (go_at_call 6; (with_reducible refine (CM.out _).mono ?_); rintro e w2 ⟨A, B, rfl, HN, HP, hb⟩; (replace HB := HB.up hb.hid)) | (go_at_call 5; (with_reducible refine (CP.out _ _ _ HN HP).mono ?_); rintro e w3 ⟨g, c, rfl, -, HQ, hb⟩; (replace HB := HB.up hb.hid)) | fail)
  refine kwp_named ?_
  intro W4 hW4
  have HU : At W4 w3.heap.size [.slice (some ⟨g, 0, none⟩) n c] := by rw [hW4]; exact at_new0 _ _ _
  replace HQ : Qs W4 (some ⟨g, 0, none⟩) qs := by rw [hW4]; exact HQ.al _
  replace HB : Bel w W4 := by rw [hW4]; exact HB.al _
  obtain ⟨p, hp⟩ : ∃ p, p = w3.heap.size := ⟨_, rfl⟩
  rw [← hp] at HU ⊢
  clear hW4 hp HN HP hb
  go_upto_region 7 with (first | (go_at_call 6; (with_reducible refine (CM.out _).mono ?_); rintro e w2 ⟨A, B, rfl, HN, HP, hb⟩; (replace HB := HB.up hb.hid); replace HU := HU.up hb.hid; replace HQ := HQ.up hb.hid) | (go_at_call 5; (with_reducible refine (CP2.out _ _ _ HN HP).mono ?_); rintro e w6 ⟨g2, c2, rfl, -, HQ2, hb⟩; (replace HB := HB.up hb.hid); replace HU := HU.up hb.hid; replace HQ := HQ.up hb.hid) | fail)
  refine kwp_named ?_
  intro W7 hW7
  have HV : At W7 w6.heap.size [.slice (some ⟨g2, 0, none⟩) n2 c2] := by rw [hW7]; exact at_new0 _ _ _
  replace HB : Bel w W7 := by rw [hW7]; exact HB.al _
  replace HU : At W7 p [.slice (some ⟨g, 0, none⟩) n c] := by rw [hW7]; exact HU.al _
  replace HQ : Qs W7 (some ⟨g, 0, none⟩) qs := by rw [hW7]; exact HQ.al _
  replace HQ2 : Qs W7 (some ⟨g2, 0, none⟩) qs2 := by rw [hW7]; exact HQ2.al _
  obtain ⟨pb, hpb⟩ : ∃ p, p = w6.heap.size := ⟨_, rfl⟩
  rw [← hpb] at HV ⊢
  clear hW7 hpb HN HP hb
  go_upto_region 9 with fail
  replace HU := HU.dr; replace HB := HB.dr; replace HQ := HQ.dr; replace HQ2 := HQ2.dr; replace HV := HV.dr
  cases x
  all_goals (
  refine wp_region_held_drew (S := fun w' => w'.cell? ⟨p, 0, none⟩ = some (.slice (some ⟨g, 0, none⟩) n c) ∧ w'.cell? ⟨pb, 0, none⟩ = some (.slice (some ⟨g2, 0, none⟩) n2 c2)) (by kernel_rfl) ?_ (fun hHeld => ?_)
  · exact ⟨HU.c0, HV.c0⟩
  generalize W7.drew = Wd at *
  (refine wpAnyH_take (i := 0) (v := ?_) rfl (by decide +kernel) (by decide +kernel) (by decide +kernel) (fun _ _ _ h => h) (Or.inl ⟨by rfl, ?_⟩) (by assumption) ?_; rotate_left; (focus ((intro w hSw; (try dsimp only at hSw); go_simp); (try (with_reducible rfl)); done)); (try simp only [List.getElem_toArray, List.getElem_cons_zero, List.getElem_cons_succ, Act.put, List.setIfInBounds_toArray, List.set_cons_zero, List.set_cons_succ]))
  (refine wpAnyH_take (i := 2) (v := ?_) rfl (by decide +kernel) (by decide +kernel) (by decide +kernel) (fun _ _ _ h => h) (Or.inl ⟨by rfl, ?_⟩) (by assumption) ?_; rotate_left; (focus ((intro w hSw; (try dsimp only at hSw); go_simp); (try (with_reducible rfl)); done)); (try simp only [List.getElem_toArray, List.getElem_cons_zero, List.getElem_cons_succ, Act.put, List.setIfInBounds_toArray, List.set_cons_zero, List.set_cons_succ]))
  (refine wpAnyH_take (i := 5) (v := ?_) rfl (by decide +kernel) (by decide +kernel) (by decide +kernel) (fun _ _ _ h => h) (Or.inl ⟨by rfl, ?_⟩) (by assumption) ?_; rotate_left; (focus ((intro w hSw; (try dsimp only at hSw); go_simp); (try (with_reducible rfl)); done)); (try simp only [List.getElem_toArray, List.getElem_cons_zero, List.getElem_cons_succ, Act.put, List.setIfInBounds_toArray, List.set_cons_zero, List.set_cons_succ]))
  (refine wpAnyH_take (i := 7) (v := ?_) rfl (by decide +kernel) (by decide +kernel) (by decide +kernel) (fun _ _ _ h => h) (Or.inl ⟨by rfl, ?_⟩) (by assumption) ?_; rotate_left; (focus ((intro w hSw; (try dsimp only at hSw); go_simp); (try (with_reducible rfl)); done)); (try simp only [List.getElem_toArray, List.getElem_cons_zero, List.getElem_cons_succ, Act.put, List.setIfInBounds_toArray, List.set_cons_zero, List.set_cons_succ]))
  (refine wpAnyH_ready (rs := [1]) (by decide +kernel) (by simp) ?_; refine AllReadyH.cons rfl (fun K hK => ?_) AllReadyH.nil; go_simp; (go_at_call 7; (with_reducible refine (CS.out _ _ _ HQ).mono ?_); rintro e wx ⟨rfl, hb⟩; replace HU := HU.up hb; replace HV := HV.up hb; replace HQ := HQ.up hb; replace HQ2 := HQ2.up hb; replace HB := HB.up hb); (try (go_wp2_with fail)); refine hK.out _ _ ?_ (fun hHeld => ?_); (focus ((try dsimp only); (with_reducible exact ⟨HU.c0, HV.c0⟩))); clear hK K; (try simp only [List.getElem_toArray, List.getElem_cons_zero, List.getElem_cons_succ, Act.put, List.setIfInBounds_toArray, List.set_cons_zero, List.set_cons_succ]))
  (refine wpAnyH_ready (rs := [3]) (by decide +kernel) (by simp) ?_; refine AllReadyH.cons rfl (fun K hK => ?_) AllReadyH.nil; go_simp; (go_at_call 7; (with_reducible refine (CS2.out _ _ _ HQ2).mono ?_); rintro e wx ⟨rfl, hb⟩; replace HU := HU.up hb; replace HV := HV.up hb; replace HQ := HQ.up hb; replace HQ2 := HQ2.up hb; replace HB := HB.up hb); (try (go_wp2_with fail)); refine hK.out _ _ ?_ (fun hHeld => ?_); (focus ((try dsimp only); (with_reducible exact ⟨HU.c0, HV.c0⟩))); clear hK K; (try simp only [List.getElem_toArray, List.getElem_cons_zero, List.getElem_cons_succ, Act.put, List.setIfInBounds_toArray, List.set_cons_zero, List.set_cons_succ]))
  (refine wpAnyH_take (i := 4) (v := ?_) rfl (by decide +kernel) (by decide +kernel) (by decide +kernel) (fun _ _ _ h => h) (Or.inl ⟨by rfl, ?_⟩) (by assumption) ?_; rotate_left; (focus ((intro w hSw; (try dsimp only at hSw); go_simp); (try (with_reducible rfl)); done)); (try simp only [List.getElem_toArray, List.getElem_cons_zero, List.getElem_cons_succ, Act.put, List.setIfInBounds_toArray, List.set_cons_zero, List.set_cons_succ]))
  (refine wpAnyH_ready (rs := [6]) (by decide +kernel) (by simp) ?_; refine AllReadyH.cons rfl (fun K hK => ?_) AllReadyH.nil; go_simp; (go_at_call 9; (with_reducible refine (CO.out _ _ _ HQ).mono ?_); rintro e wx ⟨R1, d1, rfl, HR1, hb⟩; replace HU := HU.up (Bel.hid hb); replace HV := HV.up (Bel.hid hb); replace HQ := HQ.up (Bel.hid hb); replace HQ2 := HQ2.up (Bel.hid hb); replace HB := HB.up (Bel.hid hb)); (try (go_wp2_with fail)); refine hK.out _ _ ?_ (fun hHeld => ?_); (focus ((try dsimp only); (with_reducible exact ⟨HU.c0, HV.c0⟩))); clear hK K; (try simp only [List.getElem_toArray, List.getElem_cons_zero, List.getElem_cons_succ, Act.put, List.setIfInBounds_toArray, List.set_cons_zero, List.set_cons_succ]))
  (refine wpAnyH_ready (rs := [8]) (by decide +kernel) (by simp) ?_; refine AllReadyH.cons rfl (fun K hK => ?_) AllReadyH.nil; go_simp; (go_at_call 9; (with_reducible refine (CO2.out _ _ _ HQ2).mono ?_); rintro e wx ⟨R2, d2, rfl, HR2, hb⟩; replace HU := HU.up (Bel.hid hb); replace HV := HV.up (Bel.hid hb); replace HQ := HQ.up (Bel.hid hb); replace HQ2 := HQ2.up (Bel.hid hb); replace HB := HB.up (Bel.hid hb); replace HR1 := HR1.up (Bel.hid hb)); (try (go_wp2_with fail)); refine hK.out _ _ ?_ (fun hHeld => ?_); (focus ((try dsimp only); (with_reducible exact ⟨HU.c0, HV.c0⟩))); clear hK K; (try simp only [List.getElem_toArray, List.getElem_cons_zero, List.getElem_cons_succ, Act.put, List.setIfInBounds_toArray, List.set_cons_zero, List.set_cons_succ]))
  (refine wpAnyH_ready (rs := [9]) (by decide +kernel) (by simp) ?_; refine AllReadyH.cons rfl (fun K hK => ?_) AllReadyH.nil; go_simp; (go_at_call 8; (with_reducible refine (CE.out _ _ _ _ _ HR1 HR2).mono ?_); rintro e wx ⟨rfl, hb⟩; replace HU := HU.up (Bel.hid hb); replace HV := HV.up (Bel.hid hb); replace HQ := HQ.up (Bel.hid hb); replace HQ2 := HQ2.up (Bel.hid hb); replace HB := HB.up (Bel.hid hb)); (try (go_wp2_with fail)); refine hK.out _ _ ?_ (fun hHeld => ?_); (focus ((try dsimp only); (with_reducible exact ⟨HU.c0, HV.c0⟩))); clear hK K; (try simp only [List.getElem_toArray, List.getElem_cons_zero, List.getElem_cons_succ, Act.put, List.setIfInBounds_toArray, List.set_cons_zero, List.set_cons_succ]))
  (refine wpAnyH_take (i := 10) (v := ?_) rfl (by decide +kernel) (by decide +kernel) (by decide +kernel) (fun _ _ _ h => h) (Or.inl ⟨by rfl, ?_⟩) (by assumption) ?_; rotate_left; (focus ((intro w hSw; (try dsimp only at hSw); go_simp); (try (with_reducible rfl)); done)); (try simp only [List.getElem_toArray, List.getElem_cons_zero, List.getElem_cons_succ, Act.put, List.setIfInBounds_toArray, List.set_cons_zero, List.set_cons_succ]))
  (refine wpAnyH_take (i := 11) (v := ?_) rfl (by decide +kernel) (by decide +kernel) (by decide +kernel) (fun _ _ _ h => h) (Or.inl ⟨by rfl, ?_⟩) (by assumption) ?_; rotate_left; (focus ((intro w hSw; (try dsimp only at hSw); go_simp); (try (with_reducible rfl)); done)); (try simp only [List.getElem_toArray, List.getElem_cons_zero, List.getElem_cons_succ, Act.put, List.setIfInBounds_toArray, List.set_cons_zero, List.set_cons_succ]))
  (refine wpAnyH_take (i := 12) (v := ?_) rfl (by decide +kernel) (by decide +kernel) (by decide +kernel) (fun _ _ _ h => h) (Or.inl ⟨by rfl, ?_⟩) (by assumption) ?_; rotate_left; (focus ((intro w hSw; (try dsimp only at hSw); go_simp); (try (with_reducible rfl)); done)); (try simp only [List.getElem_toArray, List.getElem_cons_zero, List.getElem_cons_succ, Act.put, List.setIfInBounds_toArray, List.set_cons_zero, List.set_cons_succ]))
  (refine wpAnyH_take (i := 13) (v := ?_) rfl (by decide +kernel) (by decide +kernel) (by decide +kernel) (fun _ _ _ h => h) (Or.inl ⟨by rfl, ?_⟩) (by assumption) ?_; rotate_left; (focus ((intro w hSw; (try dsimp only at hSw); go_simp); (try (with_reducible rfl)); done)); (try simp only [List.getElem_toArray, List.getElem_cons_zero, List.getElem_cons_succ, Act.put, List.setIfInBounds_toArray, List.set_cons_zero, List.set_cons_succ]))
  (refine wpAnyH_take (i := 14) (v := ?_) rfl (by decide +kernel) (by decide +kernel) (by decide +kernel) (fun _ _ _ h => h) (Or.inl ⟨by rfl, ?_⟩) (by assumption) ?_; rotate_left; (focus ((intro w hSw; (try dsimp only at hSw); go_simp); (try (with_reducible rfl)); done)); (try simp only [List.getElem_toArray, List.getElem_cons_zero, List.getElem_cons_succ, Act.put, List.setIfInBounds_toArray, List.set_cons_zero, List.set_cons_succ]))
  (refine wpAnyH_take (i := 15) (v := ?_) rfl (by decide +kernel) (by decide +kernel) (by decide +kernel) (fun _ _ _ h => h) (Or.inl ⟨by rfl, ?_⟩) (by assumption) ?_; rotate_left; (focus ((intro w hSw; (try dsimp only at hSw); go_simp); (try (with_reducible rfl)); done)); (try simp only [List.getElem_toArray, List.getElem_cons_zero, List.getElem_cons_succ, Act.put, List.setIfInBounds_toArray, List.set_cons_zero, List.set_cons_succ]))
  (refine wpAnyH_take (i := 17) (v := ?_) rfl (by decide +kernel) (by decide +kernel) (by decide +kernel) (fun _ _ _ h => h) (Or.inl ⟨by rfl, ?_⟩) (by assumption) ?_; rotate_left; (focus ((intro w hSw; (try dsimp only at hSw); go_simp); (try (with_reducible rfl)); done)); (try simp only [List.getElem_toArray, List.getElem_cons_zero, List.getElem_cons_succ, Act.put, List.setIfInBounds_toArray, List.set_cons_zero, List.set_cons_succ]))
  (refine wpAnyH_ready (rs := [16]) (by decide +kernel) (by simp) ?_; refine AllReadyH.cons rfl (fun K hK => ?_) AllReadyH.nil; go_simp; (go_at_call 9; (with_reducible refine (CO.out _ _ _ HQ).mono ?_); rintro e wx ⟨R3, d3, rfl, HR3, hb⟩; replace HU := HU.up (Bel.hid hb); replace HV := HV.up (Bel.hid hb); replace HQ := HQ.up (Bel.hid hb); replace HQ2 := HQ2.up (Bel.hid hb); replace HB := HB.up (Bel.hid hb)); (try (go_wp2_with fail)); refine hK.out _ _ ?_ (fun hHeld => ?_); (focus ((try dsimp only); (with_reducible exact ⟨HU.c0, HV.c0⟩))); clear hK K; (try simp only [List.getElem_toArray, List.getElem_cons_zero, List.getElem_cons_succ, Act.put, List.setIfInBounds_toArray, List.set_cons_zero, List.set_cons_succ]))
  (refine wpAnyH_ready (rs := [18]) (by decide +kernel) (by simp) ?_; refine AllReadyH.cons rfl (fun K hK => ?_) AllReadyH.nil; go_simp; (go_at_call 9; (with_reducible refine (CO2.out _ _ _ HQ2).mono ?_); rintro e wx ⟨R4, d4, rfl, HR4, hb⟩; replace HU := HU.up (Bel.hid hb); replace HV := HV.up (Bel.hid hb); replace HQ := HQ.up (Bel.hid hb); replace HQ2 := HQ2.up (Bel.hid hb); replace HB := HB.up (Bel.hid hb); replace HR3 := HR3.up (Bel.hid hb)); (try (go_wp2_with fail)); refine hK.out _ _ ?_ (fun hHeld => ?_); (focus ((try dsimp only); (with_reducible exact ⟨HU.c0, HV.c0⟩))); clear hK K; (try simp only [List.getElem_toArray, List.getElem_cons_zero, List.getElem_cons_succ, Act.put, List.setIfInBounds_toArray, List.set_cons_zero, List.set_cons_succ]))
  (refine wpAnyH_ready (rs := [19]) (by decide +kernel) (by simp) ?_; refine AllReadyH.cons rfl (fun K hK => ?_) AllReadyH.nil; go_simp; (go_at_call 8; (with_reducible refine (CE.out _ _ _ _ _ HR3 HR4).mono ?_); rintro e wx ⟨rfl, hb⟩; replace HU := HU.up (Bel.hid hb); replace HV := HV.up (Bel.hid hb); replace HQ := HQ.up (Bel.hid hb); replace HQ2 := HQ2.up (Bel.hid hb); replace HB := HB.up (Bel.hid hb)); (try (go_wp2_with fail)); refine hK.out _ _ ?_ (fun hHeld => ?_); (focus ((try dsimp only); (with_reducible exact ⟨HU.c0, HV.c0⟩))); clear hK K; (try simp only [List.getElem_toArray, List.getElem_cons_zero, List.getElem_cons_succ, Act.put, List.setIfInBounds_toArray, List.set_cons_zero, List.set_cons_succ]))
  (refine wpAnyH_take (i := 20) (v := ?_) rfl (by decide +kernel) (by decide +kernel) (by decide +kernel) (fun _ _ _ h => h) (Or.inl ⟨by rfl, ?_⟩) (by assumption) ?_; rotate_left; (focus ((intro w hSw; (try dsimp only at hSw); go_simp); (try (with_reducible rfl)); done)); (try simp only [List.getElem_toArray, List.getElem_cons_zero, List.getElem_cons_succ, Act.put, List.setIfInBounds_toArray, List.set_cons_zero, List.set_cons_succ]))
  (refine wpAnyH_take (i := 21) (v := ?_) rfl (by decide +kernel) (by decide +kernel) (by decide +kernel) (fun _ _ _ h => h) (Or.inl ⟨by rfl, ?_⟩) (by assumption) ?_; rotate_left; (focus ((intro w hSw; (try dsimp only at hSw); go_simp); (try (with_reducible rfl)); done)); (try simp only [List.getElem_toArray, List.getElem_cons_zero, List.getElem_cons_succ, Act.put, List.setIfInBounds_toArray, List.set_cons_zero, List.set_cons_succ]))
  (refine wpAnyH_take (i := 22) (v := ?_) rfl (by decide +kernel) (by decide +kernel) (by decide +kernel) (fun _ _ _ h => h) (Or.inl ⟨by rfl, ?_⟩) (by assumption) ?_; rotate_left; (focus ((intro w hSw; (try dsimp only at hSw); go_simp); (try (with_reducible rfl)); done)); (try simp only [List.getElem_toArray, List.getElem_cons_zero, List.getElem_cons_succ, Act.put, List.setIfInBounds_toArray, List.set_cons_zero, List.set_cons_succ]))
  refine wpAnyH_done (by decide +kernel) ?_ _
  go_wp2_with fail
  go_ret
  exact ⟨rfl, HB⟩
  )
theorem ushown_any (s t : ByteArray) (w : World) : Calls Tryd.prog 3 #[.string s, .string t] w (RetB w true) := by
  by_cases h : 200 < s.size ∨ 200 < t.size
  · exact ushown_long h
  · have hs : ¬ 200 < s.size := fun k => h (.inl k)
    have ht : ¬ 200 < t.size := fun k => h (.inr k)
    cases h1 : unitD uN uP s with
    | error v =>
      cases h2 : unitD uN uP t with
      | error v2 => exact ushown_ee h1 h2 hs ht
      | ok r2 => exact ushown_eo h1 h2 hs ht
    | ok r =>
      cases h2 : unitD uN uP t with
      | error v2 => exact ushown_oe h1 h2 hs ht
      | ok r2 => exact ushown_oo h1 h2 hs ht rfl
end
theorem ushown_all {s t : ByteArray} {p q : Prop} (w : World) (_ : p) (_ : q) : Calls Tryd.prog 3 #[.string s, .string t] w (fun e w' => e = .returned (.bool true) ∧ Below w.heap.size w w') := ushown_any s t w
end Go.Proofs.YthdpojkeceoiiaaDoor
