/- Words for statements: a number that a slice tells in a world and later on; the calls of package nat by what they tell; cells kept through calls. Conditions: at most 100000 words. -/
import Derived.Test.YthdpojkeceoiiaaGreatDoorGOmc11
open Go.RowKit
set_option maxRecDepth 100000
namespace Go.Proofs.YthdpojkeceoiiaaGreatDoor
/-- In world W the slice tells m. -/
def Nm (W : World) (A : Option Addr) (n c m : Nat) : Prop := Hid (Arg W W.heap.size A n c m)
theorem Nm.up {W W' : World} {A : Option Addr} {n c m : Nat} (h : Nm W A n c m) (hb : Hid (Below W.heap.size W W')) : Nm W' A n c m := (h.out.below hb.out).more hb.out.size
theorem Nm.al {W : World} {A : Option Addr} {n c m : Nat} (h : Nm W A n c m) (o : Obj) : Nm (W.alloc o) A n c m := h.up ((Below.refl _ _).alloc (Nat.le_refl _) o)
theorem Nm.dr {W : World} {A : Option Addr} {n c m : Nat} (h : Nm W A n c m) : Nm W.drew A n c m := h
theorem Nm.dl {W : World} {A : Option Addr} {n c m : Nat} (h : Nm W A n c m) : dl m ≤ 100000 := by
  have h1 := h.out.digs.2
  obtain ⟨_, _, _, h3, _⟩ := h.out
  omega
theorem nm_can {W : World} {A : Option Addr} {c m : Nat} (h : Can W W.heap.size A c m) (hd : dl m ≤ 100000) : Nm W A (dl m) c m := h.arg hd
theorem nm_later {w W : World} {A : Option Addr} {l c m : Nat} (h : Later w A l c m) (hb : Hid (Below w.heap.size w W)) : Nm W A l c m := h W hb.out
theorem nm_nil (W : World) (A : Option Addr) (c : Nat) : Nm W A 0 c 0 := ⟨[], rfl, Nat.zero_le _, by omega, Rd.nil, by intro x hx; simp at hx, rfl⟩
/-- What a call leaves that returns a number. -/
def NumR (W : World) (v : Nat) (e : Ending) (w' : World) : Prop := ∃ A c, e = .returned (.agg #[.slice A (dl v) c]) ∧ Nm w' A (dl v) c v ∧ Hid (Below W.heap.size W w')
def BoolR (W : World) (b : Bool) (e : Ending) (w' : World) : Prop := e = .returned (.bool b) ∧ Hid (Below W.heap.size W w')
def DivR (W : World) (m m' : Nat) (e : Ending) (w' : World) : Prop :=
  ∃ A c A' c', e = .returned (.tuple #[.agg #[.slice A (dl (m / m')) c], .agg #[.slice A' (dl (m % m')) c'], .bool true]) ∧ Nm w' A (dl (m / m')) c (m / m') ∧ Nm w' A' (dl (m % m')) c' (m % m') ∧ Hid (Below W.heap.size W w')
section
variable {W : World} {A A' : Option Addr} {n n' c c' m m' : Nat}
theorem dl_mono {a b : Nat} (h : a ≤ b) : dl a ≤ dl b := digs_len_mono (by decide) h
theorem of_h {v : Nat} (h : v ≤ 18446744073709551615) : Calls Tryz.prog 22 #[.int .u64 (v : Int)] W (NumR W v) :=
  (Of_any h).mono fun _ _ ⟨A, c, he, hc, hb⟩ => ⟨A, c, he, nm_can hc (Nat.le_trans (dl_le (k := 2) (by rw [show W32 ^ 2 = 18446744073709551616 from rfl]; omega)) (by omega)), hb⟩
theorem cmp_h {v : Int} (h : Nm W A n c m) (h' : Nm W A' n' c' m') (hv : cmpI m m' = v) : Calls Tryz.prog 39 #[.agg #[.slice A n c], .agg #[.slice A' n' c']] W (IntPost W v) := by
  subst hv
  exact (Cmp_any h.out h'.out).mono fun _ _ h => h
theorem add_h {v : Nat} (h : Nm W A n c m) (h' : Nm W A' n' c' m') (hv : m + m' = v) (hd : dl v ≤ 100000) : Calls Tryz.prog 27 #[.agg #[.slice A n c], .agg #[.slice A' n' c']] W (NumR W v) := by
  subst hv
  exact (Add_any h.out h'.out).mono fun _ _ ⟨A, c, he, hc, hb⟩ => ⟨A, c, he, nm_can hc hd, hb⟩
def SubYes (W : World) (v : Nat) (e : Ending) (w' : World) : Prop := ∃ A c, e = .returned (.tuple #[.agg #[.slice A (dl v) c], .bool true]) ∧ Nm w' A (dl v) c v ∧ Hid (Below W.heap.size W w')
def SubNo (W : World) (e : Ending) (w' : World) : Prop := e = .returned (.tuple #[.agg #[.slice none 0 0], .bool false]) ∧ Hid (Below W.heap.size W w')
theorem good_h (h : Nm W A (dl m) c m) : Calls Tryz.prog 21 #[.agg #[.slice A (dl m) c]] W (BoolR W true) := by
  have h1 := (h.out.digs).1
  have hd := h.dl
  have h2 := Good_any (c := c) (show dl m = (digs W32 m).length from rfl) h1.2 (by omega)
  rw [goodB_digs] at h2
  exact h2.mono fun _ _ h => h
end
theorem dl_bd {m k : Nat} (h : m < W32 ^ k) (hk : k ≤ 99999) : dl m ≤ 99999 := Nat.le_trans (dl_le h) hk
/-- Two boxes, kept through a call. -/
theorem bx2 {a b : World} {v u : Value} {t : TypeId} (hb : Hid (Below ((a.alloc (.cells #[v] t)).alloc (.cells #[u] t)).heap.size ((a.alloc (.cells #[v] t)).alloc (.cells #[u] t)) b)) :
    b.cell? ⟨a.heap.size, 0, none⟩ = some v ∧ b.cell? ⟨a.heap.size + 1, 0, none⟩ = some u ∧ Hid (a.heap.size + 2 ≤ b.heap.size) ∧ Hid (Below a.heap.size a b) := by
  have hs := hb.out.size
  simp at hs
  have b1 : (a.alloc (.cells #[v] t)).heap[a.heap.size]? = some (.cells #[v] t (0, 0)) := heap_alloc_new a _
  have b2 : ((a.alloc (.cells #[v] t)).alloc (.cells #[u] t)).heap[a.heap.size + 1]? = some (.cells #[u] t (0, 0)) := by simpa using heap_alloc_new (a.alloc (.cells #[v] t)) (.cells #[u] t)
  have b3 : ((a.alloc (.cells #[v] t)).alloc (.cells #[u] t)).heap[a.heap.size]? = some (.cells #[v] t (0, 0)) := (Below.heap_alloc _ _ _ (by simp)).trans b1
  refine ⟨(hb.out.cell (by show a.heap.size < _; simp; omega)).trans (one_cell b3).1, (hb.out.cell (by show a.heap.size + 1 < _; simp)).trans (one_cell b2).1, hs, ?_⟩
  exact (((Below.refl _ _).alloc (Nat.le_refl _) _).alloc (by simp) _).trans (hb.out.mono (by simp; omega))
/-- One box, kept through a call. -/
theorem bx1 {a b : World} {v : Value} {t : TypeId} (hb : Hid (Below (a.alloc (.cells #[v] t)).heap.size (a.alloc (.cells #[v] t)) b)) :
    b.cell? ⟨a.heap.size, 0, none⟩ = some v ∧ Hid (a.heap.size + 1 ≤ b.heap.size) ∧ Hid (Below a.heap.size a b) := by
  have hs := hb.out.size
  simp at hs
  exact ⟨(hb.out.cell (by show a.heap.size < _; simp)).trans (one_cell (heap_alloc_new a _)).1, hs, ((Below.refl _ _).alloc (Nat.le_refl _) _).trans (hb.out.mono (by simp))⟩
theorem new2 (a : World) (v u : Value) (t : TypeId) : ((a.alloc (.cells #[v] t)).alloc (.cells #[u] t)).cell? ⟨a.heap.size, 0, none⟩ = some v ∧ ((a.alloc (.cells #[v] t)).alloc (.cells #[u] t)).cell? ⟨a.heap.size + 1, 0, none⟩ = some u ∧
    Below a.heap.size a ((a.alloc (.cells #[v] t)).alloc (.cells #[u] t)) ∧ ((a.alloc (.cells #[v] t)).alloc (.cells #[u] t)).heap.size = a.heap.size + 2 := by
  obtain ⟨h1, h2, h3, h4⟩ := bx2 (a := a) (v := v) (u := u) (t := t) (b := (a.alloc (.cells #[v] t)).alloc (.cells #[u] t)) (Below.refl _ _)
  exact ⟨h1, h2, h4.out, by simp⟩
theorem new1 (a : World) (v : Value) (t : TypeId) : (a.alloc (.cells #[v] t)).cell? ⟨a.heap.size, 0, none⟩ = some v ∧ Below a.heap.size a (a.alloc (.cells #[v] t)) ∧ (a.alloc (.cells #[v] t)).heap.size = a.heap.size + 1 := by
  obtain ⟨h1, h3, h4⟩ := bx1 (a := a) (v := v) (t := t) (b := a.alloc (.cells #[v] t)) (Below.refl _ _)
  exact ⟨h1, h4.out, by simp⟩
/-- Two old boxes and two new ones, at a region's start. -/
theorem st22 {b : World} {p : Nat} {v0 v1 v2 v3 : Value} {t : TypeId} (e0 : b.cell? ⟨p, 0, none⟩ = some v0) (e1 : b.cell? ⟨p + 1, 0, none⟩ = some v1) (hp : Hid (p + 2 ≤ b.heap.size)) :
    ((b.alloc (.cells #[v2] t)).alloc (.cells #[v3] t)).drew.cell? ⟨p, 0, none⟩ = some v0 ∧ ((b.alloc (.cells #[v2] t)).alloc (.cells #[v3] t)).drew.cell? ⟨p + 1, 0, none⟩ = some v1 ∧
    ((b.alloc (.cells #[v2] t)).alloc (.cells #[v3] t)).drew.cell? ⟨b.heap.size, 0, none⟩ = some v2 ∧ ((b.alloc (.cells #[v2] t)).alloc (.cells #[v3] t)).drew.cell? ⟨b.heap.size + 1, 0, none⟩ = some v3 ∧
    Below b.heap.size b ((b.alloc (.cells #[v2] t)).alloc (.cells #[v3] t)).drew ∧ b.heap.size + 2 ≤ ((b.alloc (.cells #[v2] t)).alloc (.cells #[v3] t)).drew.heap.size := by
  obtain ⟨n1, n2, n3, n4⟩ := new2 b v2 v3 t
  have hp := hp.out
  exact ⟨(n3.cell (by show p < _; omega)).trans e0, (n3.cell (by show p + 1 < _; omega)).trans e1, n1, n2, n3.drew, by show _ ≤ ((b.alloc (.cells #[v2] t)).alloc (.cells #[v3] t)).heap.size; omega⟩
theorem chainB {w a b : World} (h : Hid (Below w.heap.size w a)) (hb : Hid (Below a.heap.size a b)) : Below w.heap.size w b := (chain h hb.out).out
theorem cellUp {p : Nat} {a b : World} {v : Value} (h : a.cell? ⟨p, 0, none⟩ = some v) (hp : p < a.heap.size) (hb : Hid (Below a.heap.size a b)) : b.cell? ⟨p, 0, none⟩ = some v := (hb.out.cell hp).trans h
theorem kp1 {w W W' : World} {b0 lim : Nat} {v0 : Value} (hl : Hid (b0 < lim)) (hb : Hid (Below W.heap.size W W'))
    (h : W.cell? ⟨b0, 0, none⟩ = some v0 ∧ Below w.heap.size w W ∧ lim ≤ W.heap.size) :
    W'.cell? ⟨b0, 0, none⟩ = some v0 ∧ Below w.heap.size w W' ∧ lim ≤ W'.heap.size := by
  obtain ⟨h0, hB, hL⟩ := h
  have hl := hl.out
  have hs := hb.out.size
  exact ⟨(hb.out.cell (by show b0 < _; omega)).trans h0, hB.trans (hb.out.mono hB.size), by omega⟩
theorem bl1 {w W : World} {lim : Nat} {a0 : Addr} {v0 : Option Value} (h : W.cell? a0 = v0 ∧ Below w.heap.size w W ∧ lim ≤ W.heap.size) : Hid (Below w.heap.size w W) := h.2.1
theorem dr1 {w W : World} {lim : Nat} {a0 : Addr} {v0 : Option Value} (h : W.cell? a0 = v0 ∧ Below w.heap.size w W ∧ lim ≤ W.heap.size) : W.drew.cell? a0 = v0 ∧ Below w.heap.size w W.drew ∧ lim ≤ W.drew.heap.size := ⟨h.1, h.2.1.drew, h.2.2⟩
theorem kp2 {w W W' : World} {b0 b1 lim : Nat} {v0 v1 : Value} (hl : Hid (b0 < lim ∧ b1 < lim)) (hb : Hid (Below W.heap.size W W'))
    (h : W.cell? ⟨b0, 0, none⟩ = some v0 ∧ W.cell? ⟨b1, 0, none⟩ = some v1 ∧ Below w.heap.size w W ∧ lim ≤ W.heap.size) :
    W'.cell? ⟨b0, 0, none⟩ = some v0 ∧ W'.cell? ⟨b1, 0, none⟩ = some v1 ∧ Below w.heap.size w W' ∧ lim ≤ W'.heap.size := by
  obtain ⟨h0, h1, hB, hL⟩ := h
  have hl := hl.out
  have hs := hb.out.size
  exact ⟨(hb.out.cell (by show b0 < _; omega)).trans h0, (hb.out.cell (by show b1 < _; omega)).trans h1, hB.trans (hb.out.mono hB.size), by omega⟩
theorem bl2 {w W : World} {lim : Nat} {a0 a1 : Addr} {v0 v1 : Option Value} (h : W.cell? a0 = v0 ∧ W.cell? a1 = v1 ∧ Below w.heap.size w W ∧ lim ≤ W.heap.size) : Hid (Below w.heap.size w W) := h.2.2.1
theorem dr2 {w W : World} {lim : Nat} {a0 a1 : Addr} {v0 v1 : Option Value} (h : W.cell? a0 = v0 ∧ W.cell? a1 = v1 ∧ Below w.heap.size w W ∧ lim ≤ W.heap.size) : W.drew.cell? a0 = v0 ∧ W.drew.cell? a1 = v1 ∧ Below w.heap.size w W.drew ∧ lim ≤ W.drew.heap.size := ⟨h.1, h.2.1, h.2.2.1.drew, h.2.2.2⟩
theorem kp3 {w W W' : World} {b0 b1 b2 lim : Nat} {v0 v1 v2 : Value} (hl : Hid (b0 < lim ∧ b1 < lim ∧ b2 < lim)) (hb : Hid (Below W.heap.size W W'))
    (h : W.cell? ⟨b0, 0, none⟩ = some v0 ∧ W.cell? ⟨b1, 0, none⟩ = some v1 ∧ W.cell? ⟨b2, 0, none⟩ = some v2 ∧ Below w.heap.size w W ∧ lim ≤ W.heap.size) :
    W'.cell? ⟨b0, 0, none⟩ = some v0 ∧ W'.cell? ⟨b1, 0, none⟩ = some v1 ∧ W'.cell? ⟨b2, 0, none⟩ = some v2 ∧ Below w.heap.size w W' ∧ lim ≤ W'.heap.size := by
  obtain ⟨h0, h1, h2, hB, hL⟩ := h
  have hl := hl.out
  have hs := hb.out.size
  exact ⟨(hb.out.cell (by show b0 < _; omega)).trans h0, (hb.out.cell (by show b1 < _; omega)).trans h1, (hb.out.cell (by show b2 < _; omega)).trans h2, hB.trans (hb.out.mono hB.size), by omega⟩
theorem bl3 {w W : World} {lim : Nat} {a0 a1 a2 : Addr} {v0 v1 v2 : Option Value} (h : W.cell? a0 = v0 ∧ W.cell? a1 = v1 ∧ W.cell? a2 = v2 ∧ Below w.heap.size w W ∧ lim ≤ W.heap.size) : Hid (Below w.heap.size w W) := h.2.2.2.1
theorem dr3 {w W : World} {lim : Nat} {a0 a1 a2 : Addr} {v0 v1 v2 : Option Value} (h : W.cell? a0 = v0 ∧ W.cell? a1 = v1 ∧ W.cell? a2 = v2 ∧ Below w.heap.size w W ∧ lim ≤ W.heap.size) : W.drew.cell? a0 = v0 ∧ W.drew.cell? a1 = v1 ∧ W.drew.cell? a2 = v2 ∧ Below w.heap.size w W.drew ∧ lim ≤ W.drew.heap.size := ⟨h.1, h.2.1, h.2.2.1, h.2.2.2.1.drew, h.2.2.2.2⟩
theorem kp4 {w W W' : World} {b0 b1 b2 b3 lim : Nat} {v0 v1 v2 v3 : Value} (hl : Hid (b0 < lim ∧ b1 < lim ∧ b2 < lim ∧ b3 < lim)) (hb : Hid (Below W.heap.size W W'))
    (h : W.cell? ⟨b0, 0, none⟩ = some v0 ∧ W.cell? ⟨b1, 0, none⟩ = some v1 ∧ W.cell? ⟨b2, 0, none⟩ = some v2 ∧ W.cell? ⟨b3, 0, none⟩ = some v3 ∧ Below w.heap.size w W ∧ lim ≤ W.heap.size) :
    W'.cell? ⟨b0, 0, none⟩ = some v0 ∧ W'.cell? ⟨b1, 0, none⟩ = some v1 ∧ W'.cell? ⟨b2, 0, none⟩ = some v2 ∧ W'.cell? ⟨b3, 0, none⟩ = some v3 ∧ Below w.heap.size w W' ∧ lim ≤ W'.heap.size := by
  obtain ⟨h0, h1, h2, h3, hB, hL⟩ := h
  have hl := hl.out
  have hs := hb.out.size
  exact ⟨(hb.out.cell (by show b0 < _; omega)).trans h0, (hb.out.cell (by show b1 < _; omega)).trans h1, (hb.out.cell (by show b2 < _; omega)).trans h2, (hb.out.cell (by show b3 < _; omega)).trans h3, hB.trans (hb.out.mono hB.size), by omega⟩
theorem bl4 {w W : World} {lim : Nat} {a0 a1 a2 a3 : Addr} {v0 v1 v2 v3 : Option Value} (h : W.cell? a0 = v0 ∧ W.cell? a1 = v1 ∧ W.cell? a2 = v2 ∧ W.cell? a3 = v3 ∧ Below w.heap.size w W ∧ lim ≤ W.heap.size) : Hid (Below w.heap.size w W) := h.2.2.2.2.1
theorem dr4 {w W : World} {lim : Nat} {a0 a1 a2 a3 : Addr} {v0 v1 v2 v3 : Option Value} (h : W.cell? a0 = v0 ∧ W.cell? a1 = v1 ∧ W.cell? a2 = v2 ∧ W.cell? a3 = v3 ∧ Below w.heap.size w W ∧ lim ≤ W.heap.size) : W.drew.cell? a0 = v0 ∧ W.drew.cell? a1 = v1 ∧ W.drew.cell? a2 = v2 ∧ W.drew.cell? a3 = v3 ∧ Below w.heap.size w W.drew ∧ lim ≤ W.drew.heap.size := ⟨h.1, h.2.1, h.2.2.1, h.2.2.2.1, h.2.2.2.2.1.drew, h.2.2.2.2.2⟩
theorem kp5 {w W W' : World} {b0 b1 b2 b3 b4 lim : Nat} {v0 v1 v2 v3 v4 : Value} (hl : Hid (b0 < lim ∧ b1 < lim ∧ b2 < lim ∧ b3 < lim ∧ b4 < lim)) (hb : Hid (Below W.heap.size W W'))
    (h : W.cell? ⟨b0, 0, none⟩ = some v0 ∧ W.cell? ⟨b1, 0, none⟩ = some v1 ∧ W.cell? ⟨b2, 0, none⟩ = some v2 ∧ W.cell? ⟨b3, 0, none⟩ = some v3 ∧ W.cell? ⟨b4, 0, none⟩ = some v4 ∧ Below w.heap.size w W ∧ lim ≤ W.heap.size) :
    W'.cell? ⟨b0, 0, none⟩ = some v0 ∧ W'.cell? ⟨b1, 0, none⟩ = some v1 ∧ W'.cell? ⟨b2, 0, none⟩ = some v2 ∧ W'.cell? ⟨b3, 0, none⟩ = some v3 ∧ W'.cell? ⟨b4, 0, none⟩ = some v4 ∧ Below w.heap.size w W' ∧ lim ≤ W'.heap.size := by
  obtain ⟨h0, h1, h2, h3, h4, hB, hL⟩ := h
  have hl := hl.out
  have hs := hb.out.size
  exact ⟨(hb.out.cell (by show b0 < _; omega)).trans h0, (hb.out.cell (by show b1 < _; omega)).trans h1, (hb.out.cell (by show b2 < _; omega)).trans h2, (hb.out.cell (by show b3 < _; omega)).trans h3, (hb.out.cell (by show b4 < _; omega)).trans h4, hB.trans (hb.out.mono hB.size), by omega⟩
theorem bl5 {w W : World} {lim : Nat} {a0 a1 a2 a3 a4 : Addr} {v0 v1 v2 v3 v4 : Option Value} (h : W.cell? a0 = v0 ∧ W.cell? a1 = v1 ∧ W.cell? a2 = v2 ∧ W.cell? a3 = v3 ∧ W.cell? a4 = v4 ∧ Below w.heap.size w W ∧ lim ≤ W.heap.size) : Hid (Below w.heap.size w W) := h.2.2.2.2.2.1
theorem dr5 {w W : World} {lim : Nat} {a0 a1 a2 a3 a4 : Addr} {v0 v1 v2 v3 v4 : Option Value} (h : W.cell? a0 = v0 ∧ W.cell? a1 = v1 ∧ W.cell? a2 = v2 ∧ W.cell? a3 = v3 ∧ W.cell? a4 = v4 ∧ Below w.heap.size w W ∧ lim ≤ W.heap.size) : W.drew.cell? a0 = v0 ∧ W.drew.cell? a1 = v1 ∧ W.drew.cell? a2 = v2 ∧ W.drew.cell? a3 = v3 ∧ W.drew.cell? a4 = v4 ∧ Below w.heap.size w W.drew ∧ lim ≤ W.drew.heap.size := ⟨h.1, h.2.1, h.2.2.1, h.2.2.2.1, h.2.2.2.2.1, h.2.2.2.2.2.1.drew, h.2.2.2.2.2.2⟩
theorem kp6 {w W W' : World} {b0 b1 b2 b3 b4 b5 lim : Nat} {v0 v1 v2 v3 v4 v5 : Value} (hl : Hid (b0 < lim ∧ b1 < lim ∧ b2 < lim ∧ b3 < lim ∧ b4 < lim ∧ b5 < lim)) (hb : Hid (Below W.heap.size W W'))
    (h : W.cell? ⟨b0, 0, none⟩ = some v0 ∧ W.cell? ⟨b1, 0, none⟩ = some v1 ∧ W.cell? ⟨b2, 0, none⟩ = some v2 ∧ W.cell? ⟨b3, 0, none⟩ = some v3 ∧ W.cell? ⟨b4, 0, none⟩ = some v4 ∧ W.cell? ⟨b5, 0, none⟩ = some v5 ∧ Below w.heap.size w W ∧ lim ≤ W.heap.size) :
    W'.cell? ⟨b0, 0, none⟩ = some v0 ∧ W'.cell? ⟨b1, 0, none⟩ = some v1 ∧ W'.cell? ⟨b2, 0, none⟩ = some v2 ∧ W'.cell? ⟨b3, 0, none⟩ = some v3 ∧ W'.cell? ⟨b4, 0, none⟩ = some v4 ∧ W'.cell? ⟨b5, 0, none⟩ = some v5 ∧ Below w.heap.size w W' ∧ lim ≤ W'.heap.size := by
  obtain ⟨h0, h1, h2, h3, h4, h5, hB, hL⟩ := h
  have hl := hl.out
  have hs := hb.out.size
  exact ⟨(hb.out.cell (by show b0 < _; omega)).trans h0, (hb.out.cell (by show b1 < _; omega)).trans h1, (hb.out.cell (by show b2 < _; omega)).trans h2, (hb.out.cell (by show b3 < _; omega)).trans h3, (hb.out.cell (by show b4 < _; omega)).trans h4, (hb.out.cell (by show b5 < _; omega)).trans h5, hB.trans (hb.out.mono hB.size), by omega⟩
theorem bl6 {w W : World} {lim : Nat} {a0 a1 a2 a3 a4 a5 : Addr} {v0 v1 v2 v3 v4 v5 : Option Value} (h : W.cell? a0 = v0 ∧ W.cell? a1 = v1 ∧ W.cell? a2 = v2 ∧ W.cell? a3 = v3 ∧ W.cell? a4 = v4 ∧ W.cell? a5 = v5 ∧ Below w.heap.size w W ∧ lim ≤ W.heap.size) : Hid (Below w.heap.size w W) := h.2.2.2.2.2.2.1
theorem dr6 {w W : World} {lim : Nat} {a0 a1 a2 a3 a4 a5 : Addr} {v0 v1 v2 v3 v4 v5 : Option Value} (h : W.cell? a0 = v0 ∧ W.cell? a1 = v1 ∧ W.cell? a2 = v2 ∧ W.cell? a3 = v3 ∧ W.cell? a4 = v4 ∧ W.cell? a5 = v5 ∧ Below w.heap.size w W ∧ lim ≤ W.heap.size) : W.drew.cell? a0 = v0 ∧ W.drew.cell? a1 = v1 ∧ W.drew.cell? a2 = v2 ∧ W.drew.cell? a3 = v3 ∧ W.drew.cell? a4 = v4 ∧ W.drew.cell? a5 = v5 ∧ Below w.heap.size w W.drew ∧ lim ≤ W.drew.heap.size := ⟨h.1, h.2.1, h.2.2.1, h.2.2.2.1, h.2.2.2.2.1, h.2.2.2.2.2.1, h.2.2.2.2.2.2.1.drew, h.2.2.2.2.2.2.2⟩
theorem kp7 {w W W' : World} {b0 b1 b2 b3 b4 b5 b6 lim : Nat} {v0 v1 v2 v3 v4 v5 v6 : Value} (hl : Hid (b0 < lim ∧ b1 < lim ∧ b2 < lim ∧ b3 < lim ∧ b4 < lim ∧ b5 < lim ∧ b6 < lim)) (hb : Hid (Below W.heap.size W W'))
    (h : W.cell? ⟨b0, 0, none⟩ = some v0 ∧ W.cell? ⟨b1, 0, none⟩ = some v1 ∧ W.cell? ⟨b2, 0, none⟩ = some v2 ∧ W.cell? ⟨b3, 0, none⟩ = some v3 ∧ W.cell? ⟨b4, 0, none⟩ = some v4 ∧ W.cell? ⟨b5, 0, none⟩ = some v5 ∧ W.cell? ⟨b6, 0, none⟩ = some v6 ∧ Below w.heap.size w W ∧ lim ≤ W.heap.size) :
    W'.cell? ⟨b0, 0, none⟩ = some v0 ∧ W'.cell? ⟨b1, 0, none⟩ = some v1 ∧ W'.cell? ⟨b2, 0, none⟩ = some v2 ∧ W'.cell? ⟨b3, 0, none⟩ = some v3 ∧ W'.cell? ⟨b4, 0, none⟩ = some v4 ∧ W'.cell? ⟨b5, 0, none⟩ = some v5 ∧ W'.cell? ⟨b6, 0, none⟩ = some v6 ∧ Below w.heap.size w W' ∧ lim ≤ W'.heap.size := by
  obtain ⟨h0, h1, h2, h3, h4, h5, h6, hB, hL⟩ := h
  have hl := hl.out
  have hs := hb.out.size
  exact ⟨(hb.out.cell (by show b0 < _; omega)).trans h0, (hb.out.cell (by show b1 < _; omega)).trans h1, (hb.out.cell (by show b2 < _; omega)).trans h2, (hb.out.cell (by show b3 < _; omega)).trans h3, (hb.out.cell (by show b4 < _; omega)).trans h4, (hb.out.cell (by show b5 < _; omega)).trans h5, (hb.out.cell (by show b6 < _; omega)).trans h6, hB.trans (hb.out.mono hB.size), by omega⟩
theorem bl7 {w W : World} {lim : Nat} {a0 a1 a2 a3 a4 a5 a6 : Addr} {v0 v1 v2 v3 v4 v5 v6 : Option Value} (h : W.cell? a0 = v0 ∧ W.cell? a1 = v1 ∧ W.cell? a2 = v2 ∧ W.cell? a3 = v3 ∧ W.cell? a4 = v4 ∧ W.cell? a5 = v5 ∧ W.cell? a6 = v6 ∧ Below w.heap.size w W ∧ lim ≤ W.heap.size) : Hid (Below w.heap.size w W) := h.2.2.2.2.2.2.2.1
theorem dr7 {w W : World} {lim : Nat} {a0 a1 a2 a3 a4 a5 a6 : Addr} {v0 v1 v2 v3 v4 v5 v6 : Option Value} (h : W.cell? a0 = v0 ∧ W.cell? a1 = v1 ∧ W.cell? a2 = v2 ∧ W.cell? a3 = v3 ∧ W.cell? a4 = v4 ∧ W.cell? a5 = v5 ∧ W.cell? a6 = v6 ∧ Below w.heap.size w W ∧ lim ≤ W.heap.size) : W.drew.cell? a0 = v0 ∧ W.drew.cell? a1 = v1 ∧ W.drew.cell? a2 = v2 ∧ W.drew.cell? a3 = v3 ∧ W.drew.cell? a4 = v4 ∧ W.drew.cell? a5 = v5 ∧ W.drew.cell? a6 = v6 ∧ Below w.heap.size w W.drew ∧ lim ≤ W.drew.heap.size := ⟨h.1, h.2.1, h.2.2.1, h.2.2.2.1, h.2.2.2.2.1, h.2.2.2.2.2.1, h.2.2.2.2.2.2.1, h.2.2.2.2.2.2.2.1.drew, h.2.2.2.2.2.2.2.2⟩
theorem kp8 {w W W' : World} {b0 b1 b2 b3 b4 b5 b6 b7 lim : Nat} {v0 v1 v2 v3 v4 v5 v6 v7 : Value} (hl : Hid (b0 < lim ∧ b1 < lim ∧ b2 < lim ∧ b3 < lim ∧ b4 < lim ∧ b5 < lim ∧ b6 < lim ∧ b7 < lim)) (hb : Hid (Below W.heap.size W W'))
    (h : W.cell? ⟨b0, 0, none⟩ = some v0 ∧ W.cell? ⟨b1, 0, none⟩ = some v1 ∧ W.cell? ⟨b2, 0, none⟩ = some v2 ∧ W.cell? ⟨b3, 0, none⟩ = some v3 ∧ W.cell? ⟨b4, 0, none⟩ = some v4 ∧ W.cell? ⟨b5, 0, none⟩ = some v5 ∧ W.cell? ⟨b6, 0, none⟩ = some v6 ∧ W.cell? ⟨b7, 0, none⟩ = some v7 ∧ Below w.heap.size w W ∧ lim ≤ W.heap.size) :
    W'.cell? ⟨b0, 0, none⟩ = some v0 ∧ W'.cell? ⟨b1, 0, none⟩ = some v1 ∧ W'.cell? ⟨b2, 0, none⟩ = some v2 ∧ W'.cell? ⟨b3, 0, none⟩ = some v3 ∧ W'.cell? ⟨b4, 0, none⟩ = some v4 ∧ W'.cell? ⟨b5, 0, none⟩ = some v5 ∧ W'.cell? ⟨b6, 0, none⟩ = some v6 ∧ W'.cell? ⟨b7, 0, none⟩ = some v7 ∧ Below w.heap.size w W' ∧ lim ≤ W'.heap.size := by
  obtain ⟨h0, h1, h2, h3, h4, h5, h6, h7, hB, hL⟩ := h
  have hl := hl.out
  have hs := hb.out.size
  exact ⟨(hb.out.cell (by show b0 < _; omega)).trans h0, (hb.out.cell (by show b1 < _; omega)).trans h1, (hb.out.cell (by show b2 < _; omega)).trans h2, (hb.out.cell (by show b3 < _; omega)).trans h3, (hb.out.cell (by show b4 < _; omega)).trans h4, (hb.out.cell (by show b5 < _; omega)).trans h5, (hb.out.cell (by show b6 < _; omega)).trans h6, (hb.out.cell (by show b7 < _; omega)).trans h7, hB.trans (hb.out.mono hB.size), by omega⟩
theorem bl8 {w W : World} {lim : Nat} {a0 a1 a2 a3 a4 a5 a6 a7 : Addr} {v0 v1 v2 v3 v4 v5 v6 v7 : Option Value} (h : W.cell? a0 = v0 ∧ W.cell? a1 = v1 ∧ W.cell? a2 = v2 ∧ W.cell? a3 = v3 ∧ W.cell? a4 = v4 ∧ W.cell? a5 = v5 ∧ W.cell? a6 = v6 ∧ W.cell? a7 = v7 ∧ Below w.heap.size w W ∧ lim ≤ W.heap.size) : Hid (Below w.heap.size w W) := h.2.2.2.2.2.2.2.2.1
theorem dr8 {w W : World} {lim : Nat} {a0 a1 a2 a3 a4 a5 a6 a7 : Addr} {v0 v1 v2 v3 v4 v5 v6 v7 : Option Value} (h : W.cell? a0 = v0 ∧ W.cell? a1 = v1 ∧ W.cell? a2 = v2 ∧ W.cell? a3 = v3 ∧ W.cell? a4 = v4 ∧ W.cell? a5 = v5 ∧ W.cell? a6 = v6 ∧ W.cell? a7 = v7 ∧ Below w.heap.size w W ∧ lim ≤ W.heap.size) : W.drew.cell? a0 = v0 ∧ W.drew.cell? a1 = v1 ∧ W.drew.cell? a2 = v2 ∧ W.drew.cell? a3 = v3 ∧ W.drew.cell? a4 = v4 ∧ W.drew.cell? a5 = v5 ∧ W.drew.cell? a6 = v6 ∧ W.drew.cell? a7 = v7 ∧ Below w.heap.size w W.drew ∧ lim ≤ W.drew.heap.size := ⟨h.1, h.2.1, h.2.2.1, h.2.2.2.1, h.2.2.2.2.1, h.2.2.2.2.2.1, h.2.2.2.2.2.2.1, h.2.2.2.2.2.2.2.1, h.2.2.2.2.2.2.2.2.1.drew, h.2.2.2.2.2.2.2.2.2⟩
theorem kp9 {w W W' : World} {b0 b1 b2 b3 b4 b5 b6 b7 b8 lim : Nat} {v0 v1 v2 v3 v4 v5 v6 v7 v8 : Value} (hl : Hid (b0 < lim ∧ b1 < lim ∧ b2 < lim ∧ b3 < lim ∧ b4 < lim ∧ b5 < lim ∧ b6 < lim ∧ b7 < lim ∧ b8 < lim)) (hb : Hid (Below W.heap.size W W'))
    (h : W.cell? ⟨b0, 0, none⟩ = some v0 ∧ W.cell? ⟨b1, 0, none⟩ = some v1 ∧ W.cell? ⟨b2, 0, none⟩ = some v2 ∧ W.cell? ⟨b3, 0, none⟩ = some v3 ∧ W.cell? ⟨b4, 0, none⟩ = some v4 ∧ W.cell? ⟨b5, 0, none⟩ = some v5 ∧ W.cell? ⟨b6, 0, none⟩ = some v6 ∧ W.cell? ⟨b7, 0, none⟩ = some v7 ∧ W.cell? ⟨b8, 0, none⟩ = some v8 ∧ Below w.heap.size w W ∧ lim ≤ W.heap.size) :
    W'.cell? ⟨b0, 0, none⟩ = some v0 ∧ W'.cell? ⟨b1, 0, none⟩ = some v1 ∧ W'.cell? ⟨b2, 0, none⟩ = some v2 ∧ W'.cell? ⟨b3, 0, none⟩ = some v3 ∧ W'.cell? ⟨b4, 0, none⟩ = some v4 ∧ W'.cell? ⟨b5, 0, none⟩ = some v5 ∧ W'.cell? ⟨b6, 0, none⟩ = some v6 ∧ W'.cell? ⟨b7, 0, none⟩ = some v7 ∧ W'.cell? ⟨b8, 0, none⟩ = some v8 ∧ Below w.heap.size w W' ∧ lim ≤ W'.heap.size := by
  obtain ⟨h0, h1, h2, h3, h4, h5, h6, h7, h8, hB, hL⟩ := h
  have hl := hl.out
  have hs := hb.out.size
  exact ⟨(hb.out.cell (by show b0 < _; omega)).trans h0, (hb.out.cell (by show b1 < _; omega)).trans h1, (hb.out.cell (by show b2 < _; omega)).trans h2, (hb.out.cell (by show b3 < _; omega)).trans h3, (hb.out.cell (by show b4 < _; omega)).trans h4, (hb.out.cell (by show b5 < _; omega)).trans h5, (hb.out.cell (by show b6 < _; omega)).trans h6, (hb.out.cell (by show b7 < _; omega)).trans h7, (hb.out.cell (by show b8 < _; omega)).trans h8, hB.trans (hb.out.mono hB.size), by omega⟩
theorem bl9 {w W : World} {lim : Nat} {a0 a1 a2 a3 a4 a5 a6 a7 a8 : Addr} {v0 v1 v2 v3 v4 v5 v6 v7 v8 : Option Value} (h : W.cell? a0 = v0 ∧ W.cell? a1 = v1 ∧ W.cell? a2 = v2 ∧ W.cell? a3 = v3 ∧ W.cell? a4 = v4 ∧ W.cell? a5 = v5 ∧ W.cell? a6 = v6 ∧ W.cell? a7 = v7 ∧ W.cell? a8 = v8 ∧ Below w.heap.size w W ∧ lim ≤ W.heap.size) : Hid (Below w.heap.size w W) := h.2.2.2.2.2.2.2.2.2.1
theorem dr9 {w W : World} {lim : Nat} {a0 a1 a2 a3 a4 a5 a6 a7 a8 : Addr} {v0 v1 v2 v3 v4 v5 v6 v7 v8 : Option Value} (h : W.cell? a0 = v0 ∧ W.cell? a1 = v1 ∧ W.cell? a2 = v2 ∧ W.cell? a3 = v3 ∧ W.cell? a4 = v4 ∧ W.cell? a5 = v5 ∧ W.cell? a6 = v6 ∧ W.cell? a7 = v7 ∧ W.cell? a8 = v8 ∧ Below w.heap.size w W ∧ lim ≤ W.heap.size) : W.drew.cell? a0 = v0 ∧ W.drew.cell? a1 = v1 ∧ W.drew.cell? a2 = v2 ∧ W.drew.cell? a3 = v3 ∧ W.drew.cell? a4 = v4 ∧ W.drew.cell? a5 = v5 ∧ W.drew.cell? a6 = v6 ∧ W.drew.cell? a7 = v7 ∧ W.drew.cell? a8 = v8 ∧ Below w.heap.size w W.drew ∧ lim ≤ W.drew.heap.size := ⟨h.1, h.2.1, h.2.2.1, h.2.2.2.1, h.2.2.2.2.1, h.2.2.2.2.2.1, h.2.2.2.2.2.2.1, h.2.2.2.2.2.2.2.1, h.2.2.2.2.2.2.2.2.1, h.2.2.2.2.2.2.2.2.2.1.drew, h.2.2.2.2.2.2.2.2.2.2⟩
/- A region's start: old boxes and new ones. -/
theorem st1_0 {b : World} {p0 : Nat} {v0 : Value} {t : TypeId} (e0 : b.cell? ⟨p0, 0, none⟩ = some v0) (hp : Hid (p0 < b.heap.size)) :
    b.drew.cell? ⟨p0, 0, none⟩ = some v0 ∧ Below b.heap.size b b.drew ∧ b.heap.size + 0 ≤ b.drew.heap.size := by
  have n3 : Below b.heap.size b b := Below.refl _ _
  have hp := hp.out
  exact ⟨(n3.cell (by show p0 < _; omega)).trans e0, n3.drew, by show _ ≤ b.heap.size; omega⟩
theorem st2_0 {b : World} {p0 p1 : Nat} {v0 v1 : Value} {t : TypeId} (e0 : b.cell? ⟨p0, 0, none⟩ = some v0) (e1 : b.cell? ⟨p1, 0, none⟩ = some v1) (hp : Hid (p0 < b.heap.size ∧ p1 < b.heap.size)) :
    b.drew.cell? ⟨p0, 0, none⟩ = some v0 ∧ b.drew.cell? ⟨p1, 0, none⟩ = some v1 ∧ Below b.heap.size b b.drew ∧ b.heap.size + 0 ≤ b.drew.heap.size := by
  have n3 : Below b.heap.size b b := Below.refl _ _
  have hp := hp.out
  exact ⟨(n3.cell (by show p0 < _; omega)).trans e0, (n3.cell (by show p1 < _; omega)).trans e1, n3.drew, by show _ ≤ b.heap.size; omega⟩
theorem st3_0 {b : World} {p0 p1 p2 : Nat} {v0 v1 v2 : Value} {t : TypeId} (e0 : b.cell? ⟨p0, 0, none⟩ = some v0) (e1 : b.cell? ⟨p1, 0, none⟩ = some v1) (e2 : b.cell? ⟨p2, 0, none⟩ = some v2) (hp : Hid (p0 < b.heap.size ∧ p1 < b.heap.size ∧ p2 < b.heap.size)) :
    b.drew.cell? ⟨p0, 0, none⟩ = some v0 ∧ b.drew.cell? ⟨p1, 0, none⟩ = some v1 ∧ b.drew.cell? ⟨p2, 0, none⟩ = some v2 ∧ Below b.heap.size b b.drew ∧ b.heap.size + 0 ≤ b.drew.heap.size := by
  have n3 : Below b.heap.size b b := Below.refl _ _
  have hp := hp.out
  exact ⟨(n3.cell (by show p0 < _; omega)).trans e0, (n3.cell (by show p1 < _; omega)).trans e1, (n3.cell (by show p2 < _; omega)).trans e2, n3.drew, by show _ ≤ b.heap.size; omega⟩
theorem st4_0 {b : World} {p0 p1 p2 p3 : Nat} {v0 v1 v2 v3 : Value} {t : TypeId} (e0 : b.cell? ⟨p0, 0, none⟩ = some v0) (e1 : b.cell? ⟨p1, 0, none⟩ = some v1) (e2 : b.cell? ⟨p2, 0, none⟩ = some v2) (e3 : b.cell? ⟨p3, 0, none⟩ = some v3) (hp : Hid (p0 < b.heap.size ∧ p1 < b.heap.size ∧ p2 < b.heap.size ∧ p3 < b.heap.size)) :
    b.drew.cell? ⟨p0, 0, none⟩ = some v0 ∧ b.drew.cell? ⟨p1, 0, none⟩ = some v1 ∧ b.drew.cell? ⟨p2, 0, none⟩ = some v2 ∧ b.drew.cell? ⟨p3, 0, none⟩ = some v3 ∧ Below b.heap.size b b.drew ∧ b.heap.size + 0 ≤ b.drew.heap.size := by
  have n3 : Below b.heap.size b b := Below.refl _ _
  have hp := hp.out
  exact ⟨(n3.cell (by show p0 < _; omega)).trans e0, (n3.cell (by show p1 < _; omega)).trans e1, (n3.cell (by show p2 < _; omega)).trans e2, (n3.cell (by show p3 < _; omega)).trans e3, n3.drew, by show _ ≤ b.heap.size; omega⟩
theorem st5_0 {b : World} {p0 p1 p2 p3 p4 : Nat} {v0 v1 v2 v3 v4 : Value} {t : TypeId} (e0 : b.cell? ⟨p0, 0, none⟩ = some v0) (e1 : b.cell? ⟨p1, 0, none⟩ = some v1) (e2 : b.cell? ⟨p2, 0, none⟩ = some v2) (e3 : b.cell? ⟨p3, 0, none⟩ = some v3) (e4 : b.cell? ⟨p4, 0, none⟩ = some v4) (hp : Hid (p0 < b.heap.size ∧ p1 < b.heap.size ∧ p2 < b.heap.size ∧ p3 < b.heap.size ∧ p4 < b.heap.size)) :
    b.drew.cell? ⟨p0, 0, none⟩ = some v0 ∧ b.drew.cell? ⟨p1, 0, none⟩ = some v1 ∧ b.drew.cell? ⟨p2, 0, none⟩ = some v2 ∧ b.drew.cell? ⟨p3, 0, none⟩ = some v3 ∧ b.drew.cell? ⟨p4, 0, none⟩ = some v4 ∧ Below b.heap.size b b.drew ∧ b.heap.size + 0 ≤ b.drew.heap.size := by
  have n3 : Below b.heap.size b b := Below.refl _ _
  have hp := hp.out
  exact ⟨(n3.cell (by show p0 < _; omega)).trans e0, (n3.cell (by show p1 < _; omega)).trans e1, (n3.cell (by show p2 < _; omega)).trans e2, (n3.cell (by show p3 < _; omega)).trans e3, (n3.cell (by show p4 < _; omega)).trans e4, n3.drew, by show _ ≤ b.heap.size; omega⟩
theorem st6_0 {b : World} {p0 p1 p2 p3 p4 p5 : Nat} {v0 v1 v2 v3 v4 v5 : Value} {t : TypeId} (e0 : b.cell? ⟨p0, 0, none⟩ = some v0) (e1 : b.cell? ⟨p1, 0, none⟩ = some v1) (e2 : b.cell? ⟨p2, 0, none⟩ = some v2) (e3 : b.cell? ⟨p3, 0, none⟩ = some v3) (e4 : b.cell? ⟨p4, 0, none⟩ = some v4) (e5 : b.cell? ⟨p5, 0, none⟩ = some v5) (hp : Hid (p0 < b.heap.size ∧ p1 < b.heap.size ∧ p2 < b.heap.size ∧ p3 < b.heap.size ∧ p4 < b.heap.size ∧ p5 < b.heap.size)) :
    b.drew.cell? ⟨p0, 0, none⟩ = some v0 ∧ b.drew.cell? ⟨p1, 0, none⟩ = some v1 ∧ b.drew.cell? ⟨p2, 0, none⟩ = some v2 ∧ b.drew.cell? ⟨p3, 0, none⟩ = some v3 ∧ b.drew.cell? ⟨p4, 0, none⟩ = some v4 ∧ b.drew.cell? ⟨p5, 0, none⟩ = some v5 ∧ Below b.heap.size b b.drew ∧ b.heap.size + 0 ≤ b.drew.heap.size := by
  have n3 : Below b.heap.size b b := Below.refl _ _
  have hp := hp.out
  exact ⟨(n3.cell (by show p0 < _; omega)).trans e0, (n3.cell (by show p1 < _; omega)).trans e1, (n3.cell (by show p2 < _; omega)).trans e2, (n3.cell (by show p3 < _; omega)).trans e3, (n3.cell (by show p4 < _; omega)).trans e4, (n3.cell (by show p5 < _; omega)).trans e5, n3.drew, by show _ ≤ b.heap.size; omega⟩
theorem st7_0 {b : World} {p0 p1 p2 p3 p4 p5 p6 : Nat} {v0 v1 v2 v3 v4 v5 v6 : Value} {t : TypeId} (e0 : b.cell? ⟨p0, 0, none⟩ = some v0) (e1 : b.cell? ⟨p1, 0, none⟩ = some v1) (e2 : b.cell? ⟨p2, 0, none⟩ = some v2) (e3 : b.cell? ⟨p3, 0, none⟩ = some v3) (e4 : b.cell? ⟨p4, 0, none⟩ = some v4) (e5 : b.cell? ⟨p5, 0, none⟩ = some v5) (e6 : b.cell? ⟨p6, 0, none⟩ = some v6) (hp : Hid (p0 < b.heap.size ∧ p1 < b.heap.size ∧ p2 < b.heap.size ∧ p3 < b.heap.size ∧ p4 < b.heap.size ∧ p5 < b.heap.size ∧ p6 < b.heap.size)) :
    b.drew.cell? ⟨p0, 0, none⟩ = some v0 ∧ b.drew.cell? ⟨p1, 0, none⟩ = some v1 ∧ b.drew.cell? ⟨p2, 0, none⟩ = some v2 ∧ b.drew.cell? ⟨p3, 0, none⟩ = some v3 ∧ b.drew.cell? ⟨p4, 0, none⟩ = some v4 ∧ b.drew.cell? ⟨p5, 0, none⟩ = some v5 ∧ b.drew.cell? ⟨p6, 0, none⟩ = some v6 ∧ Below b.heap.size b b.drew ∧ b.heap.size + 0 ≤ b.drew.heap.size := by
  have n3 : Below b.heap.size b b := Below.refl _ _
  have hp := hp.out
  exact ⟨(n3.cell (by show p0 < _; omega)).trans e0, (n3.cell (by show p1 < _; omega)).trans e1, (n3.cell (by show p2 < _; omega)).trans e2, (n3.cell (by show p3 < _; omega)).trans e3, (n3.cell (by show p4 < _; omega)).trans e4, (n3.cell (by show p5 < _; omega)).trans e5, (n3.cell (by show p6 < _; omega)).trans e6, n3.drew, by show _ ≤ b.heap.size; omega⟩
theorem st8_0 {b : World} {p0 p1 p2 p3 p4 p5 p6 p7 : Nat} {v0 v1 v2 v3 v4 v5 v6 v7 : Value} {t : TypeId} (e0 : b.cell? ⟨p0, 0, none⟩ = some v0) (e1 : b.cell? ⟨p1, 0, none⟩ = some v1) (e2 : b.cell? ⟨p2, 0, none⟩ = some v2) (e3 : b.cell? ⟨p3, 0, none⟩ = some v3) (e4 : b.cell? ⟨p4, 0, none⟩ = some v4) (e5 : b.cell? ⟨p5, 0, none⟩ = some v5) (e6 : b.cell? ⟨p6, 0, none⟩ = some v6) (e7 : b.cell? ⟨p7, 0, none⟩ = some v7) (hp : Hid (p0 < b.heap.size ∧ p1 < b.heap.size ∧ p2 < b.heap.size ∧ p3 < b.heap.size ∧ p4 < b.heap.size ∧ p5 < b.heap.size ∧ p6 < b.heap.size ∧ p7 < b.heap.size)) :
    b.drew.cell? ⟨p0, 0, none⟩ = some v0 ∧ b.drew.cell? ⟨p1, 0, none⟩ = some v1 ∧ b.drew.cell? ⟨p2, 0, none⟩ = some v2 ∧ b.drew.cell? ⟨p3, 0, none⟩ = some v3 ∧ b.drew.cell? ⟨p4, 0, none⟩ = some v4 ∧ b.drew.cell? ⟨p5, 0, none⟩ = some v5 ∧ b.drew.cell? ⟨p6, 0, none⟩ = some v6 ∧ b.drew.cell? ⟨p7, 0, none⟩ = some v7 ∧ Below b.heap.size b b.drew ∧ b.heap.size + 0 ≤ b.drew.heap.size := by
  have n3 : Below b.heap.size b b := Below.refl _ _
  have hp := hp.out
  exact ⟨(n3.cell (by show p0 < _; omega)).trans e0, (n3.cell (by show p1 < _; omega)).trans e1, (n3.cell (by show p2 < _; omega)).trans e2, (n3.cell (by show p3 < _; omega)).trans e3, (n3.cell (by show p4 < _; omega)).trans e4, (n3.cell (by show p5 < _; omega)).trans e5, (n3.cell (by show p6 < _; omega)).trans e6, (n3.cell (by show p7 < _; omega)).trans e7, n3.drew, by show _ ≤ b.heap.size; omega⟩
theorem st1_1 {b : World} {p0 : Nat} {v0 v1 : Value} {t : TypeId} (e0 : b.cell? ⟨p0, 0, none⟩ = some v0) (hp : Hid (p0 < b.heap.size)) :
    (b.alloc (.cells #[v1] t)).drew.cell? ⟨p0, 0, none⟩ = some v0 ∧ (b.alloc (.cells #[v1] t)).drew.cell? ⟨b.heap.size, 0, none⟩ = some v1 ∧ Below b.heap.size b (b.alloc (.cells #[v1] t)).drew ∧ b.heap.size + 1 ≤ (b.alloc (.cells #[v1] t)).drew.heap.size := by
  obtain ⟨n0, n3, n4⟩ := new1 b v1 t
  have hp := hp.out
  exact ⟨(n3.cell (by show p0 < _; omega)).trans e0, n0, n3.drew, by show _ ≤ (b.alloc (.cells #[v1] t)).heap.size; omega⟩
theorem st2_1 {b : World} {p0 p1 : Nat} {v0 v1 v2 : Value} {t : TypeId} (e0 : b.cell? ⟨p0, 0, none⟩ = some v0) (e1 : b.cell? ⟨p1, 0, none⟩ = some v1) (hp : Hid (p0 < b.heap.size ∧ p1 < b.heap.size)) :
    (b.alloc (.cells #[v2] t)).drew.cell? ⟨p0, 0, none⟩ = some v0 ∧ (b.alloc (.cells #[v2] t)).drew.cell? ⟨p1, 0, none⟩ = some v1 ∧ (b.alloc (.cells #[v2] t)).drew.cell? ⟨b.heap.size, 0, none⟩ = some v2 ∧ Below b.heap.size b (b.alloc (.cells #[v2] t)).drew ∧ b.heap.size + 1 ≤ (b.alloc (.cells #[v2] t)).drew.heap.size := by
  obtain ⟨n0, n3, n4⟩ := new1 b v2 t
  have hp := hp.out
  exact ⟨(n3.cell (by show p0 < _; omega)).trans e0, (n3.cell (by show p1 < _; omega)).trans e1, n0, n3.drew, by show _ ≤ (b.alloc (.cells #[v2] t)).heap.size; omega⟩
theorem st3_1 {b : World} {p0 p1 p2 : Nat} {v0 v1 v2 v3 : Value} {t : TypeId} (e0 : b.cell? ⟨p0, 0, none⟩ = some v0) (e1 : b.cell? ⟨p1, 0, none⟩ = some v1) (e2 : b.cell? ⟨p2, 0, none⟩ = some v2) (hp : Hid (p0 < b.heap.size ∧ p1 < b.heap.size ∧ p2 < b.heap.size)) :
    (b.alloc (.cells #[v3] t)).drew.cell? ⟨p0, 0, none⟩ = some v0 ∧ (b.alloc (.cells #[v3] t)).drew.cell? ⟨p1, 0, none⟩ = some v1 ∧ (b.alloc (.cells #[v3] t)).drew.cell? ⟨p2, 0, none⟩ = some v2 ∧ (b.alloc (.cells #[v3] t)).drew.cell? ⟨b.heap.size, 0, none⟩ = some v3 ∧ Below b.heap.size b (b.alloc (.cells #[v3] t)).drew ∧ b.heap.size + 1 ≤ (b.alloc (.cells #[v3] t)).drew.heap.size := by
  obtain ⟨n0, n3, n4⟩ := new1 b v3 t
  have hp := hp.out
  exact ⟨(n3.cell (by show p0 < _; omega)).trans e0, (n3.cell (by show p1 < _; omega)).trans e1, (n3.cell (by show p2 < _; omega)).trans e2, n0, n3.drew, by show _ ≤ (b.alloc (.cells #[v3] t)).heap.size; omega⟩
theorem st4_1 {b : World} {p0 p1 p2 p3 : Nat} {v0 v1 v2 v3 v4 : Value} {t : TypeId} (e0 : b.cell? ⟨p0, 0, none⟩ = some v0) (e1 : b.cell? ⟨p1, 0, none⟩ = some v1) (e2 : b.cell? ⟨p2, 0, none⟩ = some v2) (e3 : b.cell? ⟨p3, 0, none⟩ = some v3) (hp : Hid (p0 < b.heap.size ∧ p1 < b.heap.size ∧ p2 < b.heap.size ∧ p3 < b.heap.size)) :
    (b.alloc (.cells #[v4] t)).drew.cell? ⟨p0, 0, none⟩ = some v0 ∧ (b.alloc (.cells #[v4] t)).drew.cell? ⟨p1, 0, none⟩ = some v1 ∧ (b.alloc (.cells #[v4] t)).drew.cell? ⟨p2, 0, none⟩ = some v2 ∧ (b.alloc (.cells #[v4] t)).drew.cell? ⟨p3, 0, none⟩ = some v3 ∧ (b.alloc (.cells #[v4] t)).drew.cell? ⟨b.heap.size, 0, none⟩ = some v4 ∧ Below b.heap.size b (b.alloc (.cells #[v4] t)).drew ∧ b.heap.size + 1 ≤ (b.alloc (.cells #[v4] t)).drew.heap.size := by
  obtain ⟨n0, n3, n4⟩ := new1 b v4 t
  have hp := hp.out
  exact ⟨(n3.cell (by show p0 < _; omega)).trans e0, (n3.cell (by show p1 < _; omega)).trans e1, (n3.cell (by show p2 < _; omega)).trans e2, (n3.cell (by show p3 < _; omega)).trans e3, n0, n3.drew, by show _ ≤ (b.alloc (.cells #[v4] t)).heap.size; omega⟩
theorem st5_1 {b : World} {p0 p1 p2 p3 p4 : Nat} {v0 v1 v2 v3 v4 v5 : Value} {t : TypeId} (e0 : b.cell? ⟨p0, 0, none⟩ = some v0) (e1 : b.cell? ⟨p1, 0, none⟩ = some v1) (e2 : b.cell? ⟨p2, 0, none⟩ = some v2) (e3 : b.cell? ⟨p3, 0, none⟩ = some v3) (e4 : b.cell? ⟨p4, 0, none⟩ = some v4) (hp : Hid (p0 < b.heap.size ∧ p1 < b.heap.size ∧ p2 < b.heap.size ∧ p3 < b.heap.size ∧ p4 < b.heap.size)) :
    (b.alloc (.cells #[v5] t)).drew.cell? ⟨p0, 0, none⟩ = some v0 ∧ (b.alloc (.cells #[v5] t)).drew.cell? ⟨p1, 0, none⟩ = some v1 ∧ (b.alloc (.cells #[v5] t)).drew.cell? ⟨p2, 0, none⟩ = some v2 ∧ (b.alloc (.cells #[v5] t)).drew.cell? ⟨p3, 0, none⟩ = some v3 ∧ (b.alloc (.cells #[v5] t)).drew.cell? ⟨p4, 0, none⟩ = some v4 ∧ (b.alloc (.cells #[v5] t)).drew.cell? ⟨b.heap.size, 0, none⟩ = some v5 ∧ Below b.heap.size b (b.alloc (.cells #[v5] t)).drew ∧ b.heap.size + 1 ≤ (b.alloc (.cells #[v5] t)).drew.heap.size := by
  obtain ⟨n0, n3, n4⟩ := new1 b v5 t
  have hp := hp.out
  exact ⟨(n3.cell (by show p0 < _; omega)).trans e0, (n3.cell (by show p1 < _; omega)).trans e1, (n3.cell (by show p2 < _; omega)).trans e2, (n3.cell (by show p3 < _; omega)).trans e3, (n3.cell (by show p4 < _; omega)).trans e4, n0, n3.drew, by show _ ≤ (b.alloc (.cells #[v5] t)).heap.size; omega⟩
theorem st6_1 {b : World} {p0 p1 p2 p3 p4 p5 : Nat} {v0 v1 v2 v3 v4 v5 v6 : Value} {t : TypeId} (e0 : b.cell? ⟨p0, 0, none⟩ = some v0) (e1 : b.cell? ⟨p1, 0, none⟩ = some v1) (e2 : b.cell? ⟨p2, 0, none⟩ = some v2) (e3 : b.cell? ⟨p3, 0, none⟩ = some v3) (e4 : b.cell? ⟨p4, 0, none⟩ = some v4) (e5 : b.cell? ⟨p5, 0, none⟩ = some v5) (hp : Hid (p0 < b.heap.size ∧ p1 < b.heap.size ∧ p2 < b.heap.size ∧ p3 < b.heap.size ∧ p4 < b.heap.size ∧ p5 < b.heap.size)) :
    (b.alloc (.cells #[v6] t)).drew.cell? ⟨p0, 0, none⟩ = some v0 ∧ (b.alloc (.cells #[v6] t)).drew.cell? ⟨p1, 0, none⟩ = some v1 ∧ (b.alloc (.cells #[v6] t)).drew.cell? ⟨p2, 0, none⟩ = some v2 ∧ (b.alloc (.cells #[v6] t)).drew.cell? ⟨p3, 0, none⟩ = some v3 ∧ (b.alloc (.cells #[v6] t)).drew.cell? ⟨p4, 0, none⟩ = some v4 ∧ (b.alloc (.cells #[v6] t)).drew.cell? ⟨p5, 0, none⟩ = some v5 ∧ (b.alloc (.cells #[v6] t)).drew.cell? ⟨b.heap.size, 0, none⟩ = some v6 ∧ Below b.heap.size b (b.alloc (.cells #[v6] t)).drew ∧ b.heap.size + 1 ≤ (b.alloc (.cells #[v6] t)).drew.heap.size := by
  obtain ⟨n0, n3, n4⟩ := new1 b v6 t
  have hp := hp.out
  exact ⟨(n3.cell (by show p0 < _; omega)).trans e0, (n3.cell (by show p1 < _; omega)).trans e1, (n3.cell (by show p2 < _; omega)).trans e2, (n3.cell (by show p3 < _; omega)).trans e3, (n3.cell (by show p4 < _; omega)).trans e4, (n3.cell (by show p5 < _; omega)).trans e5, n0, n3.drew, by show _ ≤ (b.alloc (.cells #[v6] t)).heap.size; omega⟩
theorem st7_1 {b : World} {p0 p1 p2 p3 p4 p5 p6 : Nat} {v0 v1 v2 v3 v4 v5 v6 v7 : Value} {t : TypeId} (e0 : b.cell? ⟨p0, 0, none⟩ = some v0) (e1 : b.cell? ⟨p1, 0, none⟩ = some v1) (e2 : b.cell? ⟨p2, 0, none⟩ = some v2) (e3 : b.cell? ⟨p3, 0, none⟩ = some v3) (e4 : b.cell? ⟨p4, 0, none⟩ = some v4) (e5 : b.cell? ⟨p5, 0, none⟩ = some v5) (e6 : b.cell? ⟨p6, 0, none⟩ = some v6) (hp : Hid (p0 < b.heap.size ∧ p1 < b.heap.size ∧ p2 < b.heap.size ∧ p3 < b.heap.size ∧ p4 < b.heap.size ∧ p5 < b.heap.size ∧ p6 < b.heap.size)) :
    (b.alloc (.cells #[v7] t)).drew.cell? ⟨p0, 0, none⟩ = some v0 ∧ (b.alloc (.cells #[v7] t)).drew.cell? ⟨p1, 0, none⟩ = some v1 ∧ (b.alloc (.cells #[v7] t)).drew.cell? ⟨p2, 0, none⟩ = some v2 ∧ (b.alloc (.cells #[v7] t)).drew.cell? ⟨p3, 0, none⟩ = some v3 ∧ (b.alloc (.cells #[v7] t)).drew.cell? ⟨p4, 0, none⟩ = some v4 ∧ (b.alloc (.cells #[v7] t)).drew.cell? ⟨p5, 0, none⟩ = some v5 ∧ (b.alloc (.cells #[v7] t)).drew.cell? ⟨p6, 0, none⟩ = some v6 ∧ (b.alloc (.cells #[v7] t)).drew.cell? ⟨b.heap.size, 0, none⟩ = some v7 ∧ Below b.heap.size b (b.alloc (.cells #[v7] t)).drew ∧ b.heap.size + 1 ≤ (b.alloc (.cells #[v7] t)).drew.heap.size := by
  obtain ⟨n0, n3, n4⟩ := new1 b v7 t
  have hp := hp.out
  exact ⟨(n3.cell (by show p0 < _; omega)).trans e0, (n3.cell (by show p1 < _; omega)).trans e1, (n3.cell (by show p2 < _; omega)).trans e2, (n3.cell (by show p3 < _; omega)).trans e3, (n3.cell (by show p4 < _; omega)).trans e4, (n3.cell (by show p5 < _; omega)).trans e5, (n3.cell (by show p6 < _; omega)).trans e6, n0, n3.drew, by show _ ≤ (b.alloc (.cells #[v7] t)).heap.size; omega⟩
theorem st8_1 {b : World} {p0 p1 p2 p3 p4 p5 p6 p7 : Nat} {v0 v1 v2 v3 v4 v5 v6 v7 v8 : Value} {t : TypeId} (e0 : b.cell? ⟨p0, 0, none⟩ = some v0) (e1 : b.cell? ⟨p1, 0, none⟩ = some v1) (e2 : b.cell? ⟨p2, 0, none⟩ = some v2) (e3 : b.cell? ⟨p3, 0, none⟩ = some v3) (e4 : b.cell? ⟨p4, 0, none⟩ = some v4) (e5 : b.cell? ⟨p5, 0, none⟩ = some v5) (e6 : b.cell? ⟨p6, 0, none⟩ = some v6) (e7 : b.cell? ⟨p7, 0, none⟩ = some v7) (hp : Hid (p0 < b.heap.size ∧ p1 < b.heap.size ∧ p2 < b.heap.size ∧ p3 < b.heap.size ∧ p4 < b.heap.size ∧ p5 < b.heap.size ∧ p6 < b.heap.size ∧ p7 < b.heap.size)) :
    (b.alloc (.cells #[v8] t)).drew.cell? ⟨p0, 0, none⟩ = some v0 ∧ (b.alloc (.cells #[v8] t)).drew.cell? ⟨p1, 0, none⟩ = some v1 ∧ (b.alloc (.cells #[v8] t)).drew.cell? ⟨p2, 0, none⟩ = some v2 ∧ (b.alloc (.cells #[v8] t)).drew.cell? ⟨p3, 0, none⟩ = some v3 ∧ (b.alloc (.cells #[v8] t)).drew.cell? ⟨p4, 0, none⟩ = some v4 ∧ (b.alloc (.cells #[v8] t)).drew.cell? ⟨p5, 0, none⟩ = some v5 ∧ (b.alloc (.cells #[v8] t)).drew.cell? ⟨p6, 0, none⟩ = some v6 ∧ (b.alloc (.cells #[v8] t)).drew.cell? ⟨p7, 0, none⟩ = some v7 ∧ (b.alloc (.cells #[v8] t)).drew.cell? ⟨b.heap.size, 0, none⟩ = some v8 ∧ Below b.heap.size b (b.alloc (.cells #[v8] t)).drew ∧ b.heap.size + 1 ≤ (b.alloc (.cells #[v8] t)).drew.heap.size := by
  obtain ⟨n0, n3, n4⟩ := new1 b v8 t
  have hp := hp.out
  exact ⟨(n3.cell (by show p0 < _; omega)).trans e0, (n3.cell (by show p1 < _; omega)).trans e1, (n3.cell (by show p2 < _; omega)).trans e2, (n3.cell (by show p3 < _; omega)).trans e3, (n3.cell (by show p4 < _; omega)).trans e4, (n3.cell (by show p5 < _; omega)).trans e5, (n3.cell (by show p6 < _; omega)).trans e6, (n3.cell (by show p7 < _; omega)).trans e7, n0, n3.drew, by show _ ≤ (b.alloc (.cells #[v8] t)).heap.size; omega⟩
theorem st1_2 {b : World} {p0 : Nat} {v0 v1 v2 : Value} {t : TypeId} (e0 : b.cell? ⟨p0, 0, none⟩ = some v0) (hp : Hid (p0 < b.heap.size)) :
    ((b.alloc (.cells #[v1] t)).alloc (.cells #[v2] t)).drew.cell? ⟨p0, 0, none⟩ = some v0 ∧ ((b.alloc (.cells #[v1] t)).alloc (.cells #[v2] t)).drew.cell? ⟨b.heap.size, 0, none⟩ = some v1 ∧ ((b.alloc (.cells #[v1] t)).alloc (.cells #[v2] t)).drew.cell? ⟨b.heap.size + 1, 0, none⟩ = some v2 ∧ Below b.heap.size b ((b.alloc (.cells #[v1] t)).alloc (.cells #[v2] t)).drew ∧ b.heap.size + 2 ≤ ((b.alloc (.cells #[v1] t)).alloc (.cells #[v2] t)).drew.heap.size := by
  obtain ⟨n0, n1, n3, n4⟩ := new2 b v1 v2 t
  have hp := hp.out
  exact ⟨(n3.cell (by show p0 < _; omega)).trans e0, n0, n1, n3.drew, by show _ ≤ ((b.alloc (.cells #[v1] t)).alloc (.cells #[v2] t)).heap.size; omega⟩
theorem st2_2 {b : World} {p0 p1 : Nat} {v0 v1 v2 v3 : Value} {t : TypeId} (e0 : b.cell? ⟨p0, 0, none⟩ = some v0) (e1 : b.cell? ⟨p1, 0, none⟩ = some v1) (hp : Hid (p0 < b.heap.size ∧ p1 < b.heap.size)) :
    ((b.alloc (.cells #[v2] t)).alloc (.cells #[v3] t)).drew.cell? ⟨p0, 0, none⟩ = some v0 ∧ ((b.alloc (.cells #[v2] t)).alloc (.cells #[v3] t)).drew.cell? ⟨p1, 0, none⟩ = some v1 ∧ ((b.alloc (.cells #[v2] t)).alloc (.cells #[v3] t)).drew.cell? ⟨b.heap.size, 0, none⟩ = some v2 ∧ ((b.alloc (.cells #[v2] t)).alloc (.cells #[v3] t)).drew.cell? ⟨b.heap.size + 1, 0, none⟩ = some v3 ∧ Below b.heap.size b ((b.alloc (.cells #[v2] t)).alloc (.cells #[v3] t)).drew ∧ b.heap.size + 2 ≤ ((b.alloc (.cells #[v2] t)).alloc (.cells #[v3] t)).drew.heap.size := by
  obtain ⟨n0, n1, n3, n4⟩ := new2 b v2 v3 t
  have hp := hp.out
  exact ⟨(n3.cell (by show p0 < _; omega)).trans e0, (n3.cell (by show p1 < _; omega)).trans e1, n0, n1, n3.drew, by show _ ≤ ((b.alloc (.cells #[v2] t)).alloc (.cells #[v3] t)).heap.size; omega⟩
theorem st3_2 {b : World} {p0 p1 p2 : Nat} {v0 v1 v2 v3 v4 : Value} {t : TypeId} (e0 : b.cell? ⟨p0, 0, none⟩ = some v0) (e1 : b.cell? ⟨p1, 0, none⟩ = some v1) (e2 : b.cell? ⟨p2, 0, none⟩ = some v2) (hp : Hid (p0 < b.heap.size ∧ p1 < b.heap.size ∧ p2 < b.heap.size)) :
    ((b.alloc (.cells #[v3] t)).alloc (.cells #[v4] t)).drew.cell? ⟨p0, 0, none⟩ = some v0 ∧ ((b.alloc (.cells #[v3] t)).alloc (.cells #[v4] t)).drew.cell? ⟨p1, 0, none⟩ = some v1 ∧ ((b.alloc (.cells #[v3] t)).alloc (.cells #[v4] t)).drew.cell? ⟨p2, 0, none⟩ = some v2 ∧ ((b.alloc (.cells #[v3] t)).alloc (.cells #[v4] t)).drew.cell? ⟨b.heap.size, 0, none⟩ = some v3 ∧ ((b.alloc (.cells #[v3] t)).alloc (.cells #[v4] t)).drew.cell? ⟨b.heap.size + 1, 0, none⟩ = some v4 ∧ Below b.heap.size b ((b.alloc (.cells #[v3] t)).alloc (.cells #[v4] t)).drew ∧ b.heap.size + 2 ≤ ((b.alloc (.cells #[v3] t)).alloc (.cells #[v4] t)).drew.heap.size := by
  obtain ⟨n0, n1, n3, n4⟩ := new2 b v3 v4 t
  have hp := hp.out
  exact ⟨(n3.cell (by show p0 < _; omega)).trans e0, (n3.cell (by show p1 < _; omega)).trans e1, (n3.cell (by show p2 < _; omega)).trans e2, n0, n1, n3.drew, by show _ ≤ ((b.alloc (.cells #[v3] t)).alloc (.cells #[v4] t)).heap.size; omega⟩
theorem st4_2 {b : World} {p0 p1 p2 p3 : Nat} {v0 v1 v2 v3 v4 v5 : Value} {t : TypeId} (e0 : b.cell? ⟨p0, 0, none⟩ = some v0) (e1 : b.cell? ⟨p1, 0, none⟩ = some v1) (e2 : b.cell? ⟨p2, 0, none⟩ = some v2) (e3 : b.cell? ⟨p3, 0, none⟩ = some v3) (hp : Hid (p0 < b.heap.size ∧ p1 < b.heap.size ∧ p2 < b.heap.size ∧ p3 < b.heap.size)) :
    ((b.alloc (.cells #[v4] t)).alloc (.cells #[v5] t)).drew.cell? ⟨p0, 0, none⟩ = some v0 ∧ ((b.alloc (.cells #[v4] t)).alloc (.cells #[v5] t)).drew.cell? ⟨p1, 0, none⟩ = some v1 ∧ ((b.alloc (.cells #[v4] t)).alloc (.cells #[v5] t)).drew.cell? ⟨p2, 0, none⟩ = some v2 ∧ ((b.alloc (.cells #[v4] t)).alloc (.cells #[v5] t)).drew.cell? ⟨p3, 0, none⟩ = some v3 ∧ ((b.alloc (.cells #[v4] t)).alloc (.cells #[v5] t)).drew.cell? ⟨b.heap.size, 0, none⟩ = some v4 ∧ ((b.alloc (.cells #[v4] t)).alloc (.cells #[v5] t)).drew.cell? ⟨b.heap.size + 1, 0, none⟩ = some v5 ∧ Below b.heap.size b ((b.alloc (.cells #[v4] t)).alloc (.cells #[v5] t)).drew ∧ b.heap.size + 2 ≤ ((b.alloc (.cells #[v4] t)).alloc (.cells #[v5] t)).drew.heap.size := by
  obtain ⟨n0, n1, n3, n4⟩ := new2 b v4 v5 t
  have hp := hp.out
  exact ⟨(n3.cell (by show p0 < _; omega)).trans e0, (n3.cell (by show p1 < _; omega)).trans e1, (n3.cell (by show p2 < _; omega)).trans e2, (n3.cell (by show p3 < _; omega)).trans e3, n0, n1, n3.drew, by show _ ≤ ((b.alloc (.cells #[v4] t)).alloc (.cells #[v5] t)).heap.size; omega⟩
theorem st5_2 {b : World} {p0 p1 p2 p3 p4 : Nat} {v0 v1 v2 v3 v4 v5 v6 : Value} {t : TypeId} (e0 : b.cell? ⟨p0, 0, none⟩ = some v0) (e1 : b.cell? ⟨p1, 0, none⟩ = some v1) (e2 : b.cell? ⟨p2, 0, none⟩ = some v2) (e3 : b.cell? ⟨p3, 0, none⟩ = some v3) (e4 : b.cell? ⟨p4, 0, none⟩ = some v4) (hp : Hid (p0 < b.heap.size ∧ p1 < b.heap.size ∧ p2 < b.heap.size ∧ p3 < b.heap.size ∧ p4 < b.heap.size)) :
    ((b.alloc (.cells #[v5] t)).alloc (.cells #[v6] t)).drew.cell? ⟨p0, 0, none⟩ = some v0 ∧ ((b.alloc (.cells #[v5] t)).alloc (.cells #[v6] t)).drew.cell? ⟨p1, 0, none⟩ = some v1 ∧ ((b.alloc (.cells #[v5] t)).alloc (.cells #[v6] t)).drew.cell? ⟨p2, 0, none⟩ = some v2 ∧ ((b.alloc (.cells #[v5] t)).alloc (.cells #[v6] t)).drew.cell? ⟨p3, 0, none⟩ = some v3 ∧ ((b.alloc (.cells #[v5] t)).alloc (.cells #[v6] t)).drew.cell? ⟨p4, 0, none⟩ = some v4 ∧ ((b.alloc (.cells #[v5] t)).alloc (.cells #[v6] t)).drew.cell? ⟨b.heap.size, 0, none⟩ = some v5 ∧ ((b.alloc (.cells #[v5] t)).alloc (.cells #[v6] t)).drew.cell? ⟨b.heap.size + 1, 0, none⟩ = some v6 ∧ Below b.heap.size b ((b.alloc (.cells #[v5] t)).alloc (.cells #[v6] t)).drew ∧ b.heap.size + 2 ≤ ((b.alloc (.cells #[v5] t)).alloc (.cells #[v6] t)).drew.heap.size := by
  obtain ⟨n0, n1, n3, n4⟩ := new2 b v5 v6 t
  have hp := hp.out
  exact ⟨(n3.cell (by show p0 < _; omega)).trans e0, (n3.cell (by show p1 < _; omega)).trans e1, (n3.cell (by show p2 < _; omega)).trans e2, (n3.cell (by show p3 < _; omega)).trans e3, (n3.cell (by show p4 < _; omega)).trans e4, n0, n1, n3.drew, by show _ ≤ ((b.alloc (.cells #[v5] t)).alloc (.cells #[v6] t)).heap.size; omega⟩
theorem st6_2 {b : World} {p0 p1 p2 p3 p4 p5 : Nat} {v0 v1 v2 v3 v4 v5 v6 v7 : Value} {t : TypeId} (e0 : b.cell? ⟨p0, 0, none⟩ = some v0) (e1 : b.cell? ⟨p1, 0, none⟩ = some v1) (e2 : b.cell? ⟨p2, 0, none⟩ = some v2) (e3 : b.cell? ⟨p3, 0, none⟩ = some v3) (e4 : b.cell? ⟨p4, 0, none⟩ = some v4) (e5 : b.cell? ⟨p5, 0, none⟩ = some v5) (hp : Hid (p0 < b.heap.size ∧ p1 < b.heap.size ∧ p2 < b.heap.size ∧ p3 < b.heap.size ∧ p4 < b.heap.size ∧ p5 < b.heap.size)) :
    ((b.alloc (.cells #[v6] t)).alloc (.cells #[v7] t)).drew.cell? ⟨p0, 0, none⟩ = some v0 ∧ ((b.alloc (.cells #[v6] t)).alloc (.cells #[v7] t)).drew.cell? ⟨p1, 0, none⟩ = some v1 ∧ ((b.alloc (.cells #[v6] t)).alloc (.cells #[v7] t)).drew.cell? ⟨p2, 0, none⟩ = some v2 ∧ ((b.alloc (.cells #[v6] t)).alloc (.cells #[v7] t)).drew.cell? ⟨p3, 0, none⟩ = some v3 ∧ ((b.alloc (.cells #[v6] t)).alloc (.cells #[v7] t)).drew.cell? ⟨p4, 0, none⟩ = some v4 ∧ ((b.alloc (.cells #[v6] t)).alloc (.cells #[v7] t)).drew.cell? ⟨p5, 0, none⟩ = some v5 ∧ ((b.alloc (.cells #[v6] t)).alloc (.cells #[v7] t)).drew.cell? ⟨b.heap.size, 0, none⟩ = some v6 ∧ ((b.alloc (.cells #[v6] t)).alloc (.cells #[v7] t)).drew.cell? ⟨b.heap.size + 1, 0, none⟩ = some v7 ∧ Below b.heap.size b ((b.alloc (.cells #[v6] t)).alloc (.cells #[v7] t)).drew ∧ b.heap.size + 2 ≤ ((b.alloc (.cells #[v6] t)).alloc (.cells #[v7] t)).drew.heap.size := by
  obtain ⟨n0, n1, n3, n4⟩ := new2 b v6 v7 t
  have hp := hp.out
  exact ⟨(n3.cell (by show p0 < _; omega)).trans e0, (n3.cell (by show p1 < _; omega)).trans e1, (n3.cell (by show p2 < _; omega)).trans e2, (n3.cell (by show p3 < _; omega)).trans e3, (n3.cell (by show p4 < _; omega)).trans e4, (n3.cell (by show p5 < _; omega)).trans e5, n0, n1, n3.drew, by show _ ≤ ((b.alloc (.cells #[v6] t)).alloc (.cells #[v7] t)).heap.size; omega⟩
theorem st7_2 {b : World} {p0 p1 p2 p3 p4 p5 p6 : Nat} {v0 v1 v2 v3 v4 v5 v6 v7 v8 : Value} {t : TypeId} (e0 : b.cell? ⟨p0, 0, none⟩ = some v0) (e1 : b.cell? ⟨p1, 0, none⟩ = some v1) (e2 : b.cell? ⟨p2, 0, none⟩ = some v2) (e3 : b.cell? ⟨p3, 0, none⟩ = some v3) (e4 : b.cell? ⟨p4, 0, none⟩ = some v4) (e5 : b.cell? ⟨p5, 0, none⟩ = some v5) (e6 : b.cell? ⟨p6, 0, none⟩ = some v6) (hp : Hid (p0 < b.heap.size ∧ p1 < b.heap.size ∧ p2 < b.heap.size ∧ p3 < b.heap.size ∧ p4 < b.heap.size ∧ p5 < b.heap.size ∧ p6 < b.heap.size)) :
    ((b.alloc (.cells #[v7] t)).alloc (.cells #[v8] t)).drew.cell? ⟨p0, 0, none⟩ = some v0 ∧ ((b.alloc (.cells #[v7] t)).alloc (.cells #[v8] t)).drew.cell? ⟨p1, 0, none⟩ = some v1 ∧ ((b.alloc (.cells #[v7] t)).alloc (.cells #[v8] t)).drew.cell? ⟨p2, 0, none⟩ = some v2 ∧ ((b.alloc (.cells #[v7] t)).alloc (.cells #[v8] t)).drew.cell? ⟨p3, 0, none⟩ = some v3 ∧ ((b.alloc (.cells #[v7] t)).alloc (.cells #[v8] t)).drew.cell? ⟨p4, 0, none⟩ = some v4 ∧ ((b.alloc (.cells #[v7] t)).alloc (.cells #[v8] t)).drew.cell? ⟨p5, 0, none⟩ = some v5 ∧ ((b.alloc (.cells #[v7] t)).alloc (.cells #[v8] t)).drew.cell? ⟨p6, 0, none⟩ = some v6 ∧ ((b.alloc (.cells #[v7] t)).alloc (.cells #[v8] t)).drew.cell? ⟨b.heap.size, 0, none⟩ = some v7 ∧ ((b.alloc (.cells #[v7] t)).alloc (.cells #[v8] t)).drew.cell? ⟨b.heap.size + 1, 0, none⟩ = some v8 ∧ Below b.heap.size b ((b.alloc (.cells #[v7] t)).alloc (.cells #[v8] t)).drew ∧ b.heap.size + 2 ≤ ((b.alloc (.cells #[v7] t)).alloc (.cells #[v8] t)).drew.heap.size := by
  obtain ⟨n0, n1, n3, n4⟩ := new2 b v7 v8 t
  have hp := hp.out
  exact ⟨(n3.cell (by show p0 < _; omega)).trans e0, (n3.cell (by show p1 < _; omega)).trans e1, (n3.cell (by show p2 < _; omega)).trans e2, (n3.cell (by show p3 < _; omega)).trans e3, (n3.cell (by show p4 < _; omega)).trans e4, (n3.cell (by show p5 < _; omega)).trans e5, (n3.cell (by show p6 < _; omega)).trans e6, n0, n1, n3.drew, by show _ ≤ ((b.alloc (.cells #[v7] t)).alloc (.cells #[v8] t)).heap.size; omega⟩
theorem st8_2 {b : World} {p0 p1 p2 p3 p4 p5 p6 p7 : Nat} {v0 v1 v2 v3 v4 v5 v6 v7 v8 v9 : Value} {t : TypeId} (e0 : b.cell? ⟨p0, 0, none⟩ = some v0) (e1 : b.cell? ⟨p1, 0, none⟩ = some v1) (e2 : b.cell? ⟨p2, 0, none⟩ = some v2) (e3 : b.cell? ⟨p3, 0, none⟩ = some v3) (e4 : b.cell? ⟨p4, 0, none⟩ = some v4) (e5 : b.cell? ⟨p5, 0, none⟩ = some v5) (e6 : b.cell? ⟨p6, 0, none⟩ = some v6) (e7 : b.cell? ⟨p7, 0, none⟩ = some v7) (hp : Hid (p0 < b.heap.size ∧ p1 < b.heap.size ∧ p2 < b.heap.size ∧ p3 < b.heap.size ∧ p4 < b.heap.size ∧ p5 < b.heap.size ∧ p6 < b.heap.size ∧ p7 < b.heap.size)) :
    ((b.alloc (.cells #[v8] t)).alloc (.cells #[v9] t)).drew.cell? ⟨p0, 0, none⟩ = some v0 ∧ ((b.alloc (.cells #[v8] t)).alloc (.cells #[v9] t)).drew.cell? ⟨p1, 0, none⟩ = some v1 ∧ ((b.alloc (.cells #[v8] t)).alloc (.cells #[v9] t)).drew.cell? ⟨p2, 0, none⟩ = some v2 ∧ ((b.alloc (.cells #[v8] t)).alloc (.cells #[v9] t)).drew.cell? ⟨p3, 0, none⟩ = some v3 ∧ ((b.alloc (.cells #[v8] t)).alloc (.cells #[v9] t)).drew.cell? ⟨p4, 0, none⟩ = some v4 ∧ ((b.alloc (.cells #[v8] t)).alloc (.cells #[v9] t)).drew.cell? ⟨p5, 0, none⟩ = some v5 ∧ ((b.alloc (.cells #[v8] t)).alloc (.cells #[v9] t)).drew.cell? ⟨p6, 0, none⟩ = some v6 ∧ ((b.alloc (.cells #[v8] t)).alloc (.cells #[v9] t)).drew.cell? ⟨p7, 0, none⟩ = some v7 ∧ ((b.alloc (.cells #[v8] t)).alloc (.cells #[v9] t)).drew.cell? ⟨b.heap.size, 0, none⟩ = some v8 ∧ ((b.alloc (.cells #[v8] t)).alloc (.cells #[v9] t)).drew.cell? ⟨b.heap.size + 1, 0, none⟩ = some v9 ∧ Below b.heap.size b ((b.alloc (.cells #[v8] t)).alloc (.cells #[v9] t)).drew ∧ b.heap.size + 2 ≤ ((b.alloc (.cells #[v8] t)).alloc (.cells #[v9] t)).drew.heap.size := by
  obtain ⟨n0, n1, n3, n4⟩ := new2 b v8 v9 t
  have hp := hp.out
  exact ⟨(n3.cell (by show p0 < _; omega)).trans e0, (n3.cell (by show p1 < _; omega)).trans e1, (n3.cell (by show p2 < _; omega)).trans e2, (n3.cell (by show p3 < _; omega)).trans e3, (n3.cell (by show p4 < _; omega)).trans e4, (n3.cell (by show p5 < _; omega)).trans e5, (n3.cell (by show p6 < _; omega)).trans e6, (n3.cell (by show p7 < _; omega)).trans e7, n0, n1, n3.drew, by show _ ≤ ((b.alloc (.cells #[v8] t)).alloc (.cells #[v9] t)).heap.size; omega⟩
end Go.Proofs.YthdpojkeceoiiaaGreatDoor
