/- RowsKnown. No conditions. -/
import Derived.Test.YtbmpbcnhgnmekaaDoorEo
open Go.RowKit
set_option maxRecDepth 100000
namespace Go.Proofs.YtbmpbcnhgnmekaaDoor
/-- A text k times. -/
def rep (u : ByteArray) (k : Nat) : ByteArray := ⟨((List.replicate k u.data.toList).flatten).toArray⟩
theorem rep_more (u : ByteArray) (k : Nat) : rep u k ++ u = rep u (k + 1) := by
  apply ByteArray.ext; apply Array.toList_inj.1
  unfold rep
  rw [ByteArray.data_append, Array.toList_append, List.replicate_succ']
  simp
theorem rep_size (u : ByteArray) (k : Nat) : (rep u k).size = k * u.size := by
  rw [Lib.size_eq, Lib.size_eq]
  unfold rep
  induction k with
  | zero => simp
  | succ k ih => simp only [List.replicate_succ, List.flatten_cons, List.length_append] at *; rw [ih, Nat.add_mul]; omega
theorem pieces_rep (k : Nat) : pieces 10 (rep ⟨#[97, 10]⟩ k) = List.replicate k ⟨#[97]⟩ ++ [⟨#[]⟩] := by
  have key : cutBy (10 : UInt8) ((List.replicate k [97, 10]).flatten) = List.replicate k [97] ++ [[]] := by
    induction k with
    | zero => rfl
    | succ k ih =>
      rw [List.replicate_succ, List.flatten_cons]
      show cutBy (10 : UInt8) ([97] ++ 10 :: (List.replicate k [97, 10]).flatten) = _
      rw [cutBy_lead (by decide), ih]; rfl
  refine map_data_inj ?_
  rw [pieces_data, show (rep ⟨#[97, 10]⟩ k).data.toList = (List.replicate k [97, 10]).flatten from rfl, key, List.map_append, List.map_replicate]; rfl
theorem rows_many (rest : List ByteArray) : ∀ (n i k : Nat), k + n = 2001 → k ≤ 2000 → rowsOf i k (List.replicate n ⟨#[97]⟩ ++ rest) = ([], i + n, 11)
  | 0, i, k, h, h' => absurd h (by omega)
  | n + 1, i, k, h, h' => by
    have hp : plainB ⟨#[97]⟩ = true := by decide
    have hwl : (wordsB ⟨#[97]⟩).length = 1 := by decide +kernel
    have hwn : wordsB ⟨#[97]⟩ ≠ [] := fun e => by rw [e] at hwl; cases hwl
    rw [List.replicate_succ, List.cons_append, rowsOf, if_neg (by rw [hp, hwl]; simp), if_neg hwn]
    by_cases hk : k = 2000
    · rw [if_pos hk]
      obtain rfl : n = 0 := by omega
      rfl
    · rw [if_neg hk, rows_many rest n (i + 1) (k + 1) (by omega) (by omega), if_neg (show ¬ (11 : Nat) = 0 by decide)]
      simp only
      rw [show i + 1 + n = i + (n + 1) by omega]
theorem table_many : tableOf (rep ⟨#[97, 10]⟩ 2001) = ([], 2001, 11) := by
  unfold tableOf
  rw [if_neg (by rw [rep_size]; decide), pieces_rep, rows_many _ 2001 0 0 rfl (by omega)]
theorem table_long {s : ByteArray} (h : 65536 < s.size) : tableOf s = ([], 0, 11) := by unfold tableOf; rw [if_pos h]
def kn : List TRow := [(2, [⟨#[120]⟩, ⟨#[121, 35, 122]⟩]), (5, [⟨#[122]⟩])]
theorem table_kn : tableOf ⟨#[10, 32, 32, 120, 32, 32, 121, 35, 122, 32, 35, 113, 10, 35, 10, 10, 122, 10]⟩ = (kn, 0, 0) := by decide +kernel
theorem table_b : tableOf ⟨#[97, 10, 98, 9, 99]⟩ = ([], 2, 2) := by decide +kernel
theorem table_c : tableOf ⟨#[97, 10, 35, 32, 128]⟩ = ([], 2, 2) := by decide +kernel
theorem table_w : tableOf (rep ⟨#[97, 32]⟩ 25) = ([], 1, 2) := by decide +kernel
theorem of_z : ofR ⟨#[122]⟩ kn = [(5, [⟨#[122]⟩])] := by decide +kernel
theorem of_q : ofR ⟨#[113]⟩ kn = [] := by decide +kernel
theorem cells_at4 (W : World) (a b c d : Value) (t : TypeId) : ∀ j x, [a, b, c, d][j]? = some x → (W.alloc (.cells #[a, b, c, d] t)).cell? ⟨W.heap.size, j, none⟩ = some x := fun j x hx => by
  have h := World.alloc_heap_new W (.cells #[a, b, c, d] t)
  simp only [World.cell?]
  rw [h]
  simpa using hx
/-- A literal of two rows. -/
theorem rs_lit2 {V : World} {A B : Option Addr} {c d l m l' m' : Nat} {ws xs : List ByteArray} (h : Ss V A ws) (h' : Ss V B xs) (hm : m = ws.length) (hm' : m' = xs.length) (hA : A = none → c = 0) (hB : B = none → d = 0) (hc : m ≤ c) (hd : m' ≤ d) (t : TypeId) :
    Rs (V.alloc (.cells #[.int .i64 (l : Int), .slice A m c, .int .i64 (l' : Int), .slice B m' d] t)) (some ⟨V.heap.size, 0, none⟩) [(l, ws), (l', xs)] := fun _ => by
  have hk := cells_at4 V (.int .i64 (l : Int)) (.slice A m c) (.int .i64 (l' : Int)) (.slice B m' d) t
  refine ⟨V.heap.size, [.slice A m c, .slice B m' d], rfl, by simp, rfl, fun j r v hr hv => ?_⟩
  match j with
  | 0 =>
    simp at hr hv
    subst hr; subst hv; subst hm
    exact ⟨hk 0 _ rfl, hk 1 _ rfl, A, c, rfl, hA, hc, (h.al _).out⟩
  | 1 =>
    simp at hr hv
    subst hr; subst hv; subst hm'
    exact ⟨hk 2 _ rfl, hk 3 _ rfl, B, d, rfl, hB, hd, (h'.al _).out⟩
  | j + 2 => simp at hr
end Go.Proofs.YtbmpbcnhgnmekaaDoor
