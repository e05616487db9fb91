/- Each theorem here says its own conditions. -/
import Derived.Test.YtfflmmbhpchloaaGreatDoorGTkwc24
set_option maxRecDepth 100000
set_option maxHeartbeats 16000000
section
open Go.RowKit
open Go.Proofs.YtfflmmbhpchloaaGreatDoor.V
namespace Go.Proofs.YtfflmmbhpchloaaGreatDoor
def PaR (W : World) (o : Except Int PL) (e : Ending) (w' : World) : Prop := match o with
 | .error v => e = .returned (.tuple #[.agg #[.slice none 0 0, .slice none 0 0, .slice none 0 0], .int .i64 v]) ∧ Bel W w'
 | .ok p => ∃ A1 n1 c1 A2 n2 c2 A3 n3 c3, e = .returned (.tuple #[.agg #[.slice A1 n1 c1, .slice A2 n2 c2, .slice A3 n3 c3], .int .i64 0]) ∧ Q1 w' (.slice A1 n1 c1) (.slice A2 n2 c2) (.slice A3 n3 c3) (ofP p) ∧ Bel W w'
theorem unitD_codes {names ps : List ByteArray} {s : ByteArray} {v : Int} (h : unitD names ps s = .error v) : v = 11 ∨ v = 2 := by
 unfold unitD at h
 split at h
 ·injection h with h; exact .inl h.symm
 ·split at h
  ·injection h with h; exact .inr h.symm
  ·split at h
   ·injection h with h; exact .inr h.symm
   ·split at h
    ·injection h with h; exact .inr h.symm
    ·cases h
theorem part_at {W : World} {g : Nat} {q : PL} (h : Qs W (some ⟨g, 0, none⟩) ([q].map ofP)) : ∃ A1 n1 c1 A2 n2 c2 A3 n3 c3, W.cell? ⟨g, 0, none⟩ = some (.slice A1 n1 c1) ∧ W.cell? ⟨g, 1, none⟩ = some (.slice A2 n2 c2) ∧ W.cell? ⟨g, 2, none⟩ = some (.slice A3 n3 c3) ∧
 Q1 W (.slice A1 n1 c1) (.slice A2 n2 c2) (.slice A3 n3 c3) (ofP q) := by
 obtain ⟨ad, v1, v2, v3, e, hb, h1, h2, h3, h4⟩ := h.at_ (k := 0) (q := ofP q) rfl
 injection e with e
 subst e
 rw [plain_add3] at h1 h2 h3
 obtain ⟨A1, c1, A2, c2, A3, c3, e1, e2, e3, _⟩ := h4.out
 subst e1; subst e2; subst e3
 exact ⟨_, _, _, _, _, _, _, _, _, h1, h2, h3, h4⟩
theorem Q1.put3 {W : World} {v1 v2 v3 : Value} {q : QL} {p : Nat} {B0 B1 B2 : Option Addr} {k0 d0 k1 d1 k2 d2 : Nat} {u0 u1 u2 : Value} (h : Q1 W v1 v2 v3 q) (hp : At W p [.slice B0 k0 d0, .slice B1 k1 d1, .slice B2 k2 d2]) :
 Q1 (((W.setCell ⟨p, 0, none⟩ u0).setCell ⟨p, 1, none⟩ u1).setCell ⟨p, 2, none⟩ u2) v1 v2 v3 q :=
 ((h.setn hp.c0 u0).setn (hp.put (i := 0) (by simp) u0).c1 u1).setn ((hp.put (i := 0) (by simp) u0).put (i := 1) (by simp) u1).c2 u2
theorem Q1.pal {W : World} {v1 v2 v3 : Value} {q : QL} {p : Nat} {o : Obj} {B0 B1 B2 : Option Addr} {k0 d0 k1 d1 k2 d2 : Nat} {u0 u1 u2 : Value} (h : Q1 W v1 v2 v3 q) (hp : At W p [.slice B0 k0 d0, .slice B1 k1 d1, .slice B2 k2 d2]) :
 Q1 ((((W.setCell ⟨p, 0, none⟩ u0).setCell ⟨p, 1, none⟩ u1).setCell ⟨p, 2, none⟩ u2).alloc o) v1 v2 v3 q := (h.put3 hp).al o
section
variable {base p g y : Nat} {W W' : World} {x : TPl} {T : Tb} {s : ByteArray}
theorem tpart_h (h : LdM base W g p y x T) (hl : T.ents.length ≤ 1000000) (hl2 : T.vals.length ≤ 1000000) : Calls Tryz.prog 130 #[.pointer (some ⟨g, 0, none⟩), .string s] W (PaR W (T.part s)) := by
 have CK : Hid (∀ W', Bel W W' → Calls Tryz.prog 30 #[.pointer (some ⟨p, 0, none⟩)] W' (KnR W' T)) := fun W' hb => tknown_h (h.tab.up hb.hid)
 obtain ⟨n, hn⟩ : ∃ n, n = T.ents.length := ⟨_, rfl⟩
 obtain ⟨m, hm⟩ : ∃ m, m = T.vals.length := ⟨_, rfl⟩
 unfold KnR at CK
 rw [← hn, ← hm] at CK
 obtain ⟨o, ho⟩ : ∃ o, unitD T.names T.prefs s = o := ⟨_, rfl⟩
 have CP : Hid (∀ W' A c B d, Ss W' A T.names → Ss W' B T.prefs → Calls Tryz.prog 29 #[.agg #[.slice A n c, .slice B m d], .string s] W' (UnitR W' o)) := fun W' A c B d h1 h2 => ho ▸ uparse_any h1 (by rw [hn]; simp [Tb.names]) (by omega) h2 (by rw [hm]; simp [Tb.prefs]) (by omega)
 obtain ⟨W1, hW1⟩ : ∃ X, X = W.alloc (.cells #[.slice none 0 0, .slice none 0 0, .slice none 0 0] 44) := ⟨_, rfl⟩
 have HR : At W1 W.heap.size [.slice none 0 0, .slice none 0 0, .slice none 0 0] := by rw [hW1]; exact at_new0 _ _ _
 have HB : Bel W W1 := by rw [hW1]; exact (Bel.refl W).al _
 have HM := khide (h.up HB.hid)
 have HW := khide hW1
 have q0 := HM.out.c0; have ql := HM.out.lt
 have hr_0 := HR.c0; have hr_1 := HR.c1; have hr_2 := HR.c2; have hr_l := HR.lt; have hr_f0 := HR.f0; have hr_f1 := HR.f1; have hr_f2 := HR.f2
 unfold Tb.part
 rw [ho]
 clear hW1 h hn hm hl hl2
 cases o with
 | error v =>
   have hv := unitD_codes ho
   have d1 : (v != 0) = true := by rcases hv with rfl | rfl <;> rfl
   have HV := khide hv
   clear ho hv
   go_enter Tryz.func130, Tryz.ntmps130
   go_upto_region 1 with fail
   rw [← HW.out]
   go_wp2_with (first
    | (go_at_call 30; (with_reducible refine (CK.out _ HB).mono ?_); rintro e w1 ⟨A, c, B, d, rfl, s1, s2, hb⟩; replace HR := HR.up hb.hid; replace HB := HB.up hb.hid)
    | (go_at_call 29; (with_reducible refine (CP.out _ _ _ _ _ s1 s2).mono ?_); rintro e w2 ⟨rfl, hb⟩; replace HR := HR.up hb.hid; replace HB := HB.up hb.hid; clear hr_0 hr_1 hr_2 hr_l hr_f0 hr_f1 hr_f2; have hr_0 := HR.c0; have hr_1 := HR.c1; have hr_2 := HR.c2; have hr_l := HR.lt; have hr_f0 := HR.f0; have hr_f1 := HR.f1; have hr_f2 := HR.f2)
    | fail)
   refine bodyPost_ret (v := .tuple #[.agg #[.slice none 0 0, .slice none 0 0, .slice none 0 0], .int .i64 v]) (by simp [results, Tryz.results130, go_sem, hr_0, hr_1, hr_2, hr_l]) rfl ⟨rfl, ?_⟩
   first | exact below3 (HB.al _) (Nat.le_refl _) _ _ _ | exact (Bel.of (below3 HB (Nat.le_refl _) _ _ _)).al _
 | ok ps =>
   clear ho
   match ps with
   | [] =>
     go_enter Tryz.func130, Tryz.ntmps130
     go_upto_region 1 with fail
     rw [← HW.out]
     go_wp2_with (first
      | (go_at_call 30; (with_reducible refine (CK.out _ HB).mono ?_); rintro e w1 ⟨A, c, B, d, rfl, s1, s2, hb⟩; replace HR := HR.up hb.hid; replace HB := HB.up hb.hid)
      | (go_at_call 29; (with_reducible refine (CP.out _ _ _ _ _ s1 s2).mono ?_); rintro e w2 ⟨g1, c2, rfl, hc2, hg2, hqs, hb⟩; replace HR := HR.up hb.hid; replace HB := HB.up hb.hid; clear hr_0 hr_1 hr_2 hr_l hr_f0 hr_f1 hr_f2; have hr_0 := HR.c0; have hr_1 := HR.c1; have hr_2 := HR.c2; have hr_l := HR.lt; have hr_f0 := HR.f0; have hr_f1 := HR.f1; have hr_f2 := HR.f2)
      | fail)
     refine bodyPost_ret (v := .tuple #[.agg #[.slice none 0 0, .slice none 0 0, .slice none 0 0], .int .i64 2]) (by simp [results, Tryz.results130, go_sem, hr_0, hr_1, hr_2, hr_l]) rfl ⟨rfl, ?_⟩
     first | exact below3 (HB.al _) (Nat.le_refl _) _ _ _ | exact (Bel.of (below3 HB (Nat.le_refl _) _ _ _)).al _
   | a :: b :: r =>
     have dl : ((((a :: b :: r).length : Nat) : Int) != 1) = true := by rw [bne_iff_ne]; simp; omega
     obtain ⟨k, hk⟩ : ∃ k, (a :: b :: r).length = k := ⟨_, rfl⟩
     rw [hk] at dl
     unfold UnitR at CP
     simp only [hk] at CP
     clear hk
     go_enter Tryz.func130, Tryz.ntmps130
     go_upto_region 1 with fail
     rw [← HW.out]
     go_wp2_with (first
      | (go_at_call 30; (with_reducible refine (CK.out _ HB).mono ?_); rintro e w1 ⟨A, c, B, d, rfl, s1, s2, hb⟩; replace HR := HR.up hb.hid; replace HB := HB.up hb.hid)
      | (go_at_call 29; (with_reducible refine (CP.out _ _ _ _ _ s1 s2).mono ?_); rintro e w2 ⟨g1, c2, rfl, hc2, hg2, hqs, hb⟩; replace HR := HR.up hb.hid; replace HB := HB.up hb.hid; clear hr_0 hr_1 hr_2 hr_l hr_f0 hr_f1 hr_f2; have hr_0 := HR.c0; have hr_1 := HR.c1; have hr_2 := HR.c2; have hr_l := HR.lt; have hr_f0 := HR.f0; have hr_f1 := HR.f1; have hr_f2 := HR.f2)
      | fail)
     refine bodyPost_ret (v := .tuple #[.agg #[.slice none 0 0, .slice none 0 0, .slice none 0 0], .int .i64 2]) (by simp [results, Tryz.results130, go_sem, hr_0, hr_1, hr_2, hr_l]) rfl ⟨rfl, ?_⟩
     first | exact below3 (HB.al _) (Nat.le_refl _) _ _ _ | exact (Bel.of (below3 HB (Nat.le_refl _) _ _ _)).al _
   | [q] =>
     go_enter Tryz.func130, Tryz.ntmps130
     go_upto_region 1 with fail
     rw [← HW.out]
     go_wp2_with (first
      | (go_at_call 30; (with_reducible refine (CK.out _ HB).mono ?_); rintro e w1 ⟨A, c, B, d, rfl, s1, s2, hb⟩; replace HR := HR.up hb.hid; replace HB := HB.up hb.hid)
      | (go_at_call 29; (with_reducible refine (CP.out _ _ _ _ _ s1 s2).mono ?_); rintro e w2 ⟨g1, c2, rfl, hc2, hg2, hqs, hb⟩; replace HR := HR.up hb.hid; replace HB := HB.up hb.hid; clear hr_0 hr_1 hr_2 hr_l hr_f0 hr_f1 hr_f2; have hr_0 := HR.c0; have hr_1 := HR.c1; have hr_2 := HR.c2; have hr_l := HR.lt; have hr_f0 := HR.f0; have hr_f1 := HR.f1; have hr_f2 := HR.f2; obtain ⟨A1, n1, k1, A2, n2, k2, A3, n3, k3, e0, e1, e2, hq⟩ := part_at hqs; have hgl := World.block_lt_of_cell? _ _ e0; have HQ := khide hq; clear hqs hq)
      | fail)
     refine bodyPost_ret (v := .tuple #[.agg #[.slice A1 n1 k1, .slice A2 n2 k2, .slice A3 n3 k3], .int .i64 0]) (by simp [results, Tryz.results130, go_sem, hr_0, hr_1, hr_2, hr_l]) rfl ?_
     refine ⟨A1, n1, k1, A2, n2, k2, A3, n3, k3, rfl, ?_, ?_⟩
     ·first | exact HQ.out.alp HR | exact (HQ.out.pal HR)
     ·first | exact below3 (HB.al _) (Nat.le_refl _) _ _ _ | exact (Bel.of (below3 HB (Nat.le_refl _) _ _ _)).al _
end
def TPl.all (x : TPl) (g p y : Nat) : List Nat := p :: g :: y :: x.b1 :: x.b2 :: x.b3 :: x.p2 :: x.b4 :: x.rows
section
variable {base p g y : Nat} {W W' : World} {x : TPl} {T : Tb}
theorem TPl.row1 {r : Nat} (h : x.v1.ownBlock = some r) : r ∈ x.rows := by unfold TPl.rows; rw [h]; simp
theorem TPl.row2 {r : Nat} (h : x.v2.ownBlock = some r) : r ∈ x.rows := by unfold TPl.rows; rw [h]; simp
theorem TPl.row4 {r : Nat} (h : x.v4.ownBlock = some r) : r ∈ x.rows := by unfold TPl.rows; rw [h]; simp
theorem row_at {v : Value} {xs : List ByteArray} (h : Row W base v xs) {r : Nat} (hr : v.ownBlock = some r) : base ≤ r ∧ ∃ cs, W.heap[r]? = some (.cells cs 9 (0, 0)) := by
 rcases h.own.2 with ⟨h1, _⟩ | ⟨g, cap, cur, h1, h2, h3, _⟩
 ·rw [h1] at hr; cases hr
 ·rw [h1] at hr; injection hr with hr
  have hh : g = r := hr
  subst hh
  exact ⟨h2, _, h3⟩
theorem TabM.rows_at (h : TabM base W p x T) : ∀ r ∈ x.rows, base ≤ r ∧ ∃ cs, W.heap[r]? = some (.cells cs 9 (0, 0)) := by
 intro r hr
 unfold TPl.rows at hr
 rcases List.mem_append.1 hr with hr | hr
 ·rcases List.mem_append.1 hr with hr | hr
  ·exact row_at h.row1 (by simpa using hr)
  ·exact row_at h.row2 (by simpa using hr)
 ·exact row_at h.qs.row (by simpa using hr)
theorem LdM.all_lt (h : LdM base W g p y x T) : ∀ k ∈ x.all g p y, base ≤ k ∧ k < W.heap.size := by
 intro k hk
 unfold TPl.all at hk
 simp only [List.mem_cons] at hk
 obtain ⟨l1, m1, _⟩ := h.tab.ents
 obtain ⟨l2, m2, _⟩ := h.tab.vals
 obtain ⟨l3, m3, _⟩ := h.facs
 have hb := h.tab.hb
 rcases hk with rfl | rfl | rfl | rfl | rfl | rfl | rfl | rfl | hk
 ·exact ⟨h.tab.hp, h.tab.lt⟩
 ·exact ⟨h.hg, h.lt⟩
 ·exact ⟨h.hy, m3.lt⟩
 ·exact ⟨hb _ (by simp), m1.lt⟩
 ·exact ⟨hb _ (by simp), m2.lt⟩
 ·exact ⟨hb _ (by simp), h.tab.als.lt⟩
 ·exact ⟨hb _ (by simp), h.tab.qs.lt⟩
 ·exact ⟨hb _ (by simp), h.tab.qs.map.lt⟩
 ·obtain ⟨h1, cs, h2⟩ := h.tab.rows_at k hk
  exact ⟨h1, (Array.getElem?_eq_some_iff.1 h2).1⟩
structure Apart (x : TPl) (g p y : Nat) : Prop where
 gp : g ≠ p
 g2 : g ≠ x.p2
 p2 : p ≠ x.p2
 mg : ∀ b ∈ [y, x.b1, x.b2, x.b3, x.b4], b ≠ g ∧ b ≠ p ∧ b ≠ x.p2 ∧ b ∉ x.rows
 rg : g ∉ x.rows ∧ p ∉ x.rows ∧ x.p2 ∉ x.rows
theorem mapV_ne {l : List (ByteArray × Value)} {b q : Nat} {cs : Array Value} {t : TypeId} {fr : Nat × Nat} (h : MapV W b l) (hq : W.heap[q]? = some (.cells cs t fr)) : b ≠ q := fun e => h.not_cells (e ▸ hq)
theorem LdM.apart (h : LdM base W g p y x T) : Apart x g p y := by
 obtain ⟨l1, m1, _⟩ := h.tab.ents
 obtain ⟨l2, m2, _⟩ := h.tab.vals
 obtain ⟨l3, m3, _⟩ := h.facs
 have hrw := h.tab.rows_at
 have ne : ∀ {a c : Nat} {cs cs' : Array Value} {t t' : TypeId}, W.heap[a]? = some (.cells cs t (0, 0)) → W.heap[c]? = some (.cells cs' t' (0, 0)) → t ≠ t' → a ≠ c := fun h1 h2 h3 e => by
  subst e; rw [h1] at h2; injection h2 with h2; injection h2 with _ h2 _; exact h3 h2
 refine ⟨ne h.blk h.tab.blk (by decide), ne h.blk h.tab.qs.blk (by decide), ne h.tab.blk h.tab.qs.blk (by decide), fun b hb => ?_, ?_, ?_, ?_⟩
 ·have key : (∀ q cs t fr, W.heap[q]? = some (.cells cs t fr) → b ≠ q) → b ≠ g ∧ b ≠ p ∧ b ≠ x.p2 ∧ b ∉ x.rows := fun k =>
   ⟨k _ _ _ _ h.blk, k _ _ _ _ h.tab.blk, k _ _ _ _ h.tab.qs.blk, fun hm => by obtain ⟨_, cs, h2⟩ := hrw b hm; exact k _ _ _ _ h2 rfl⟩
  simp only [List.mem_cons, List.mem_nil_iff, or_false] at hb
  rcases hb with rfl | rfl | rfl | rfl | rfl
  ·exact key fun q cs t fr hq => mapV_ne m3 hq
  ·exact key fun q cs t fr hq => mapV_ne m1 hq
  ·exact key fun q cs t fr hq => mapV_ne m2 hq
  ·exact key fun q cs t fr hq => mapV_ne h.tab.als hq
  ·exact key fun q cs t fr hq e => h.tab.qs.map.not_cells (e ▸ hq)
 ·intro hm; obtain ⟨_, cs, h2⟩ := hrw g hm; exact ne h.blk h2 (by decide) rfl
 ·intro hm; obtain ⟨_, cs, h2⟩ := hrw p hm; exact ne h.tab.blk h2 (by decide) rfl
 ·intro hm; obtain ⟨_, cs, h2⟩ := hrw _ hm; exact ne h.tab.qs.blk h2 (by decide) rfl
def Stp (base : Nat) (W : World) (g p y : Nat) (x : TPl) (T' : Tb) (w' : World) : Prop := ∃ x', LdM base w' g p y x' T' ∧ Turn (x.all g p y) W w' ∧ KU W w' ∧ ∀ k ∈ x'.all g p y, k ∈ x.all g p y ∨ W.heap.size ≤ k
theorem put_end {s : ByteArray} {e : Ent} {v' : Value} {w6 : World} (h : LdM base W g p y x T)
 (T6 : Turn ((p :: x.v1.ownBlock.toList ++ [x.b1]) ++ [y]) W w6) (K6 : KU W w6)
 (B6 : w6.heap[p]? = some (.cells #[v', x.v2, .map (some x.b1), .map (some x.b2), .map (some x.b3), .pointer (some ⟨x.p2, 0, none⟩)] 89 (0, 0)))
 (R6 : Row w6 base v' (T.names ++ [s])) (hv' : v'.ownBlock = x.v1.ownBlock ∨ ∃ g, v'.ownBlock = some g ∧ W.heap.size ≤ g)
 (E6 : ∃ l, MapV w6 x.b1 l ∧ Rel (EntV w6) l (T.ents ++ [(s, e)])) (F6 : ∃ l, MapV w6 y l ∧ Rel (fun _ e v => QV w6 e.full 11 v) l (T.ents ++ [(s, e)])) :
 Stp base W g p y x { T with ents := T.ents ++ [(s, e)] } w6 := by
 have ap := h.apart
 have hnd := h.tab.nd
 have hrd := h.tab.rd
 have hyn := h.nd
 simp only [List.nodup_cons, List.mem_cons, List.mem_nil_iff, or_false, not_or, List.not_mem_nil, List.nodup_nil, not_false_eq_true, and_true] at hnd hyn
 unfold TPl.rows at hrd
 have hm : ∀ k, k ≠ p → k ≠ x.b1 → k ≠ y → x.v1.ownBlock ≠ some k → k ∉ (p :: x.v1.ownBlock.toList ++ [x.b1]) ++ [y] := by
  intro k h1 h2 h3 h4 h5
  simp only [List.mem_append, List.mem_cons, List.mem_nil_iff, or_false, List.not_mem_nil, Option.mem_toList] at h5
  rcases h5 with (h5 | h5) | h5
  ·rcases h5 with h5 | h5
   ·exact h1 h5
   ·exact h4 h5
  ·exact h2 h5
  ·exact h3 h5
 have hrow : ∀ k, k ∈ x.rows → x.v1.ownBlock ≠ some k → k ∉ (p :: x.v1.ownBlock.toList ++ [x.b1]) ++ [y] := fun k hk h1 =>
  hm k (fun e => ap.rg.2.1 (e ▸ hk)) (fun e => (ap.mg x.b1 (by simp)).2.2.2 (e ▸ hk)) (fun e => (ap.mg y (by simp)).2.2.2 (e ▸ hk)) h1
 have hmap : ∀ k, k ∈ [y, x.b1, x.b2, x.b3, x.b4] → k ≠ x.b1 → k ≠ y → k ∉ (p :: x.v1.ownBlock.toList ++ [x.b1]) ++ [y] := fun k hk h1 h2 =>
  hm k (ap.mg k hk).2.1 h1 h2 (fun e => (ap.mg k hk).2.2.2 (TPl.row1 e))
 have d12 : ∀ k, x.v2.ownBlock = some k → x.v1.ownBlock ≠ some k := fun k h2 h1 => by
  rw [h1, h2] at hrd; simp at hrd
 have d14 : ∀ k, x.v4.ownBlock = some k → x.v1.ownBlock ≠ some k := fun k h2 h1 => by
  rw [h1, h2] at hrd; simp at hrd
 obtain ⟨l2, m2, r2⟩ := h.tab.vals
 refine ⟨{ x with v1 := v' }, ⟨(T6.block g h.lt (hm g ap.gp (ap.mg x.b1 (by simp)).1.symm (ap.mg y (by simp)).1.symm (fun e => ap.rg.1 (TPl.row1 e)))).trans h.blk, h.hg, h.hy,
  ⟨B6, h.tab.hp, h.tab.hb, ?_, h.tab.row2.turn T6 (fun k hk => hrow k (TPl.row2 hk) (d12 k hk)), E6,
    ⟨l2, m2.turn T6 (hmap _ (by simp) (fun e => hnd.1.1 e.symm) (fun e => hyn.2.1 e.symm)), r2.mono fun s e v hv => hv.ku K6⟩, h.tab.als.turn T6 (hmap _ (by simp) (fun e => hnd.1.2.1 e.symm) (fun e => hyn.2.2.1 e.symm)),
    h.tab.qs.turn T6 (hm _ ap.p2.symm (ap.mg x.b1 (by simp)).2.2.1.symm (ap.mg y (by simp)).2.2.1.symm (fun e => ap.rg.2.2 (TPl.row1 e))) (hmap _ (by simp) (fun e => hnd.1.2.2 e.symm) (fun e => hyn.2.2.2 e.symm)) (fun k hk => hrow k (TPl.row4 hk) (d14 k hk)), h.tab.nd, ?_⟩, F6, h.nd⟩, T6.mono ?_, K6, ?_⟩
 ·have e1 : Tb.names { T with ents := T.ents ++ [(s, e)] } = T.names ++ [s] := by simp [Tb.names]
  rw [e1]; exact R6
 ·unfold TPl.rows
  rcases hv' with e1 | ⟨k, e1, hk⟩
  ·dsimp only; rw [e1]; exact hrd
  ·dsimp only
   rw [e1]
   rw [List.append_assoc] at hrd ⊢
   have h2 := (List.nodup_append.1 hrd).2.1
   have h3 : k ∉ x.v2.ownBlock.toList ++ x.v4.ownBlock.toList := fun hm => by
    have h4 : k ∈ x.rows := by unfold TPl.rows; rw [List.append_assoc]; exact List.mem_append_right _ hm
    have h5 := (h.all_lt k (by unfold TPl.all; simp [h4])).2
    omega
   exact List.nodup_cons.2 ⟨h3, h2⟩
 ·intro k hk
  unfold TPl.all
  simp only [List.mem_append, List.mem_cons, List.mem_nil_iff, or_false, List.not_mem_nil, Option.mem_toList] at hk ⊢
  rcases hk with (hk | hk) | hk
  ·rcases hk with hk | hk
   ·exact .inl hk
   ·have := TPl.row1 hk; simp [this]
  ·simp [hk]
  ·simp [hk]
 ·intro k hk
  unfold TPl.all at hk ⊢
  simp only [List.mem_cons] at hk ⊢
  have key : k ∈ TPl.rows { x with v1 := v' } → k ∈ x.rows ∨ W.heap.size ≤ k := fun hk => by
   unfold TPl.rows at hk ⊢
   dsimp only at hk
   rcases hv' with e1 | ⟨j, e1, hj⟩
   ·rw [e1] at hk; exact .inl hk
   ·rw [e1, List.append_assoc] at hk
    rcases List.mem_append.1 hk with hk | hk
    ·have : j = k := Option.some.inj (Option.mem_toList.1 hk)
     exact .inr (this ▸ hj)
    ·rw [List.append_assoc]; exact .inl (List.mem_append_right _ hk)
  rcases hk with hk | hk | hk | hk | hk | hk | hk | hk | hk
  ·simp [hk]
  ·simp [hk]
  ·simp [hk]
  ·simp [hk]
  ·simp [hk]
  ·simp [hk]
  ·simp [hk]
  ·simp [hk]
  ·rcases key hk with h1 | h1
   ·simp [h1]
   ·exact .inr h1
end
theorem dbase_0 (w : World) : Calls Tryz.prog 120 #[.int .i64 0] w (RetVV w (⟨1, 0, 0, 0, 0, 0, 0, 0⟩ : V8) true) := by
 go_enter Tryz.func120, Tryz.ntmps120
 go_wp2
 refine vname_end ?_
 intro W4 hW4
 have HF : At W4 w.heap.size (⟨1, 0, 0, 0, 0, 0, 0, 0⟩ : V8).c := by rw [hW4]; exact (at_new0 w (⟨1, 0, 0, 0, 0, 0, 0, 0⟩ : V8).c _).al _
 have BF : Bel w W4 := by rw [hW4]; exact (((Bel.refl w).al _).al _)
 clear hW4
 obtain ⟨r0, r1, r2, r3, r4, r5, r6, r7⟩ := HF.v8
 refine bodyPost_ret (v := .tuple #[(⟨1, 0, 0, 0, 0, 0, 0, 0⟩ : V8).v, .bool true]) (by simp [results, Tryz.results120, go_sem, r0, r1, r2, r3, r4, r5, r6, r7]) rfl ⟨rfl, BF⟩
theorem dbase_1 (w : World) : Calls Tryz.prog 120 #[.int .i64 1] w (RetVV w (⟨0, 1, 0, 0, 0, 0, 0, 0⟩ : V8) true) := by
 go_enter Tryz.func120, Tryz.ntmps120
 go_wp2
 refine vname_end ?_
 intro W4 hW4
 have HF : At W4 w.heap.size (⟨0, 1, 0, 0, 0, 0, 0, 0⟩ : V8).c := by rw [hW4]; exact (at_new0 w (⟨0, 1, 0, 0, 0, 0, 0, 0⟩ : V8).c _).al _
 have BF : Bel w W4 := by rw [hW4]; exact (((Bel.refl w).al _).al _)
 clear hW4
 obtain ⟨r0, r1, r2, r3, r4, r5, r6, r7⟩ := HF.v8
 refine bodyPost_ret (v := .tuple #[(⟨0, 1, 0, 0, 0, 0, 0, 0⟩ : V8).v, .bool true]) (by simp [results, Tryz.results120, go_sem, r0, r1, r2, r3, r4, r5, r6, r7]) rfl ⟨rfl, BF⟩
theorem dbase_2 (w : World) : Calls Tryz.prog 120 #[.int .i64 2] w (RetVV w (⟨0, 0, 1, 0, 0, 0, 0, 0⟩ : V8) true) := by
 go_enter Tryz.func120, Tryz.ntmps120
 go_wp2
 refine vname_end ?_
 intro W4 hW4
 have HF : At W4 w.heap.size (⟨0, 0, 1, 0, 0, 0, 0, 0⟩ : V8).c := by rw [hW4]; exact (at_new0 w (⟨0, 0, 1, 0, 0, 0, 0, 0⟩ : V8).c _).al _
 have BF : Bel w W4 := by rw [hW4]; exact (((Bel.refl w).al _).al _)
 clear hW4
 obtain ⟨r0, r1, r2, r3, r4, r5, r6, r7⟩ := HF.v8
 refine bodyPost_ret (v := .tuple #[(⟨0, 0, 1, 0, 0, 0, 0, 0⟩ : V8).v, .bool true]) (by simp [results, Tryz.results120, go_sem, r0, r1, r2, r3, r4, r5, r6, r7]) rfl ⟨rfl, BF⟩
theorem dbase_3 (w : World) : Calls Tryz.prog 120 #[.int .i64 3] w (RetVV w (⟨0, 0, 0, 1, 0, 0, 0, 0⟩ : V8) true) := by
 go_enter Tryz.func120, Tryz.ntmps120
 go_wp2
 refine vname_end ?_
 intro W4 hW4
 have HF : At W4 w.heap.size (⟨0, 0, 0, 1, 0, 0, 0, 0⟩ : V8).c := by rw [hW4]; exact (at_new0 w (⟨0, 0, 0, 1, 0, 0, 0, 0⟩ : V8).c _).al _
 have BF : Bel w W4 := by rw [hW4]; exact (((Bel.refl w).al _).al _)
 clear hW4
 obtain ⟨r0, r1, r2, r3, r4, r5, r6, r7⟩ := HF.v8
 refine bodyPost_ret (v := .tuple #[(⟨0, 0, 0, 1, 0, 0, 0, 0⟩ : V8).v, .bool true]) (by simp [results, Tryz.results120, go_sem, r0, r1, r2, r3, r4, r5, r6, r7]) rfl ⟨rfl, BF⟩
theorem dbase_4 (w : World) : Calls Tryz.prog 120 #[.int .i64 4] w (RetVV w (⟨0, 0, 0, 0, 1, 0, 0, 0⟩ : V8) true) := by
 go_enter Tryz.func120, Tryz.ntmps120
 go_wp2
 refine vname_end ?_
 intro W4 hW4
 have HF : At W4 w.heap.size (⟨0, 0, 0, 0, 1, 0, 0, 0⟩ : V8).c := by rw [hW4]; exact (at_new0 w (⟨0, 0, 0, 0, 1, 0, 0, 0⟩ : V8).c _).al _
 have BF : Bel w W4 := by rw [hW4]; exact (((Bel.refl w).al _).al _)
 clear hW4
 obtain ⟨r0, r1, r2, r3, r4, r5, r6, r7⟩ := HF.v8
 refine bodyPost_ret (v := .tuple #[(⟨0, 0, 0, 0, 1, 0, 0, 0⟩ : V8).v, .bool true]) (by simp [results, Tryz.results120, go_sem, r0, r1, r2, r3, r4, r5, r6, r7]) rfl ⟨rfl, BF⟩
theorem dbase_5 (w : World) : Calls Tryz.prog 120 #[.int .i64 5] w (RetVV w (⟨0, 0, 0, 0, 0, 1, 0, 0⟩ : V8) true) := by
 go_enter Tryz.func120, Tryz.ntmps120
 go_wp2
 refine vname_end ?_
 intro W4 hW4
 have HF : At W4 w.heap.size (⟨0, 0, 0, 0, 0, 1, 0, 0⟩ : V8).c := by rw [hW4]; exact (at_new0 w (⟨0, 0, 0, 0, 0, 1, 0, 0⟩ : V8).c _).al _
 have BF : Bel w W4 := by rw [hW4]; exact (((Bel.refl w).al _).al _)
 clear hW4
 obtain ⟨r0, r1, r2, r3, r4, r5, r6, r7⟩ := HF.v8
 refine bodyPost_ret (v := .tuple #[(⟨0, 0, 0, 0, 0, 1, 0, 0⟩ : V8).v, .bool true]) (by simp [results, Tryz.results120, go_sem, r0, r1, r2, r3, r4, r5, r6, r7]) rfl ⟨rfl, BF⟩
theorem dbase_6 (w : World) : Calls Tryz.prog 120 #[.int .i64 6] w (RetVV w (⟨0, 0, 0, 0, 0, 0, 1, 0⟩ : V8) true) := by
 go_enter Tryz.func120, Tryz.ntmps120
 go_wp2
 refine vname_end ?_
 intro W4 hW4
 have HF : At W4 w.heap.size (⟨0, 0, 0, 0, 0, 0, 1, 0⟩ : V8).c := by rw [hW4]; exact (at_new0 w (⟨0, 0, 0, 0, 0, 0, 1, 0⟩ : V8).c _).al _
 have BF : Bel w W4 := by rw [hW4]; exact (((Bel.refl w).al _).al _)
 clear hW4
 obtain ⟨r0, r1, r2, r3, r4, r5, r6, r7⟩ := HF.v8
 refine bodyPost_ret (v := .tuple #[(⟨0, 0, 0, 0, 0, 0, 1, 0⟩ : V8).v, .bool true]) (by simp [results, Tryz.results120, go_sem, r0, r1, r2, r3, r4, r5, r6, r7]) rfl ⟨rfl, BF⟩
theorem dbase_7 (w : World) : Calls Tryz.prog 120 #[.int .i64 7] w (RetVV w (⟨0, 0, 0, 0, 0, 0, 0, 1⟩ : V8) true) := by
 go_enter Tryz.func120, Tryz.ntmps120
 go_wp2
 refine vname_end ?_
 intro W4 hW4
 have HF : At W4 w.heap.size (⟨0, 0, 0, 0, 0, 0, 0, 1⟩ : V8).c := by rw [hW4]; exact (at_new0 w (⟨0, 0, 0, 0, 0, 0, 0, 1⟩ : V8).c _).al _
 have BF : Bel w W4 := by rw [hW4]; exact (((Bel.refl w).al _).al _)
 clear hW4
 obtain ⟨r0, r1, r2, r3, r4, r5, r6, r7⟩ := HF.v8
 refine bodyPost_ret (v := .tuple #[(⟨0, 0, 0, 0, 0, 0, 0, 1⟩ : V8).v, .bool true]) (by simp [results, Tryz.results120, go_sem, r0, r1, r2, r3, r4, r5, r6, r7]) rfl ⟨rfl, BF⟩
theorem unitV_at : unitV 0 = ⟨1, 0, 0, 0, 0, 0, 0, 0⟩ ∧ unitV 1 = ⟨0, 1, 0, 0, 0, 0, 0, 0⟩ ∧ unitV 2 = ⟨0, 0, 1, 0, 0, 0, 0, 0⟩ ∧ unitV 3 = ⟨0, 0, 0, 1, 0, 0, 0, 0⟩ ∧
 unitV 4 = ⟨0, 0, 0, 0, 1, 0, 0, 0⟩ ∧ unitV 5 = ⟨0, 0, 0, 0, 0, 1, 0, 0⟩ ∧ unitV 6 = ⟨0, 0, 0, 0, 0, 0, 1, 0⟩ ∧ unitV 7 = ⟨0, 0, 0, 0, 0, 0, 0, 1⟩ := ⟨rfl, rfl, rfl, rfl, rfl, rfl, rfl, rfl⟩
theorem dbase_h {k : Nat} (hk : k < 8) (w : World) : Calls Tryz.prog 120 #[.int .i64 (k : Int)] w (RetVV w (unitV k) true) := by
 obtain ⟨e0, e1, e2, e3, e4, e5, e6, e7⟩ := unitV_at
 match k, hk with
 | 0, _ => rw [e0]; exact dbase_0 w
 | 1, _ => rw [e1]; exact dbase_1 w
 | 2, _ => rw [e2]; exact dbase_2 w
 | 3, _ => rw [e3]; exact dbase_3 w
 | 4, _ => rw [e4]; exact dbase_4 w
 | 5, _ => rw [e5]; exact dbase_5 w
 | 6, _ => rw [e6]; exact dbase_6 w
 | 7, _ => rw [e7]; exact dbase_7 w
theorem unitV_ok {k : Nat} (hk : k < 8) : (unitV k).ok = true ∧ (unitV k).wf := by
 have h1 : ∀ k, k < 8 → (unitV k).ok = true := by decide +kernel
 have h2 : ∀ k, k < 8 → ∀ j, j < 8 → (Lit.int .i64 ((unitV k).at_ j)).wf = true := by decide +kernel
 exact ⟨h1 k hk, h2 k hk⟩
theorem ok_wf {v : V8} (h : v.ok = true) : v.wf := by
 intro k hk
 have hb : ∀ i : Int, -100 ≤ i → i ≤ 100 → (Lit.int .i64 i).wf = true := fun i h1 h2 => by
  have h3 : ∀ n : Nat, n ≤ 200 → (Lit.int .i64 ((n : Int) - 100)).wf = true := by decide +kernel
  have h4 := h3 (i + 100).toNat (by omega)
  have e : (((i + 100).toNat : Nat) : Int) - 100 = i := by omega
  rwa [e] at h4
 exact hb _ (V8.ok_iff.1 h k hk).1 (V8.ok_iff.1 h k hk).2
theorem vecGo_ok {T : Tb} : ∀ {l : List (AL × Int)} {a v : V8}, a.ok = true → T.vecGo l a = some v → v.ok = true
 | [], a, v, ha, h => by injection h with h; exact h ▸ ha
 | x :: r, a, v, ha, h => by
   unfold Tb.vecGo at h
   cases hl : lookL T.ents x.1.2.1 with
   | none => rw [hl] at h; cases h
   | some m =>
     rw [hl] at h
     dsimp only at h
     split at h
     ·split at h
      ·exact vecGo_ok (V8.addR_ok _ _) h
      ·cases h
     ·cases h
theorem vec_ok {T : Tb} {p : List AL × List AL} {v : V8} (h : T.vec p = some v) : v.ok = true ∧ v.wf := by
 have h1 := vecGo_ok (show V8.z.ok = true by decide) h
 exact ⟨h1, ok_wf h1⟩
section
variable {n : Nat} {T T' : Tb} {s id q : ByteArray}
theorem OkT.more (h : OkT n T) : OkT (n + 1) T := ⟨h.ent, h.val, h.b8, Nat.le_succ_of_le h.l1, Nat.le_succ_of_le h.l2, Nat.le_succ_of_le h.l3, Nat.le_succ_of_le h.l4⟩
theorem okT_alias (h : OkT n T) (hr : T.addAlias s id = .ok T') : OkT (n + 1) T' := by
 unfold Tb.addAlias at hr
 split at hr
 ·cases hr
 ·cases hp : T.part id with
  | error v => rw [hp] at hr; cases hr
  | ok p =>
    rw [hp] at hr
    injection hr with hr
    subst hr
    exact ⟨h.ent, h.val, h.b8, Nat.le_succ_of_le h.l1, Nat.le_succ_of_le h.l2, by simpa using h.l3, Nat.le_succ_of_le h.l4⟩
theorem okT_quan (h : OkT n T) (hr : T.addQuantity s id = .ok T') : OkT (n + 1) T' := by
 unfold Tb.addQuantity at hr
 split at hr
 ·cases hr
 ·cases hp : T.part id with
  | error v => rw [hp] at hr; cases hr
  | ok p =>
    rw [hp] at hr
    dsimp only at hr
    cases hv : T.vec (p.1, p.2.1) with
    | none => rw [hv] at hr; cases hr
    | some v =>
      rw [hv] at hr
      dsimp only at hr
      split at hr
      ·cases hr
      ·injection hr with hr
       subst hr
       exact ⟨h.ent, h.val, h.b8, Nat.le_succ_of_le h.l1, Nat.le_succ_of_le h.l2, Nat.le_succ_of_le h.l3, by simpa using h.l4⟩
theorem ent_more {e : Ent} (h : ∀ t x, lookL T.ents t = some x → 0 < x.full ∧ Bd x.full 11 ∧ x.vec.ok = true ∧ Bd x.fac 101 ∧ Bd x.off 101) (he : 0 < e.full ∧ Bd e.full 11 ∧ e.vec.ok = true ∧ Bd e.fac 101 ∧ Bd e.off 101) :
 ∀ t x, lookL (T.ents ++ [(s, e)]) t = some x → 0 < x.full ∧ Bd x.full 11 ∧ x.vec.ok = true ∧ Bd x.fac 101 ∧ Bd x.off 101 := by
 intro t x hx
 rw [lookL_append] at hx
 cases h1 : lookL T.ents t with
 | some z => rw [h1] at hx; injection hx with hx; subst hx; exact h t _ h1
 | none =>
   rw [h1, lookL_one] at hx
   by_cases e1 : s = t
   ·rw [if_pos e1] at hx; injection hx with hx; subst hx; exact he
   ·rw [if_neg e1] at hx; cases hx
theorem bds : (0 : Rat) < 1 ∧ Bd 1 11 ∧ Bd 1 101 ∧ Bd 0 101 := ⟨by decide, ⟨by decide +kernel, by decide +kernel⟩, ⟨by decide +kernel, by decide +kernel⟩, ⟨by decide +kernel, by decide +kernel⟩⟩
theorem okT_base (h : OkT n T) (hr : T.addBase s q = .ok T') : OkT (n + 1) T' := by
 unfold Tb.addBase at hr
 split at hr
 ·cases hr
 ·split at hr
  ·cases hr
  ·split at hr
   ·cases hr
   ·rename_i h8
    split at hr
    ·cases hr
    ·injection hr with hr
     subst hr
     have hb := h.b8
     refine ⟨ent_more h.ent ⟨bds.1, bds.2.1, (unitV_ok (by omega)).1, bds.2.2.1, bds.2.2.2⟩, h.val, by show T.bases + 1 ≤ 8; omega, by simpa using h.l1, Nat.le_succ_of_le h.l2, Nat.le_succ_of_le h.l3, by simpa using h.l4⟩
end
end Go.Proofs.YtfflmmbhpchloaaGreatDoor
end
