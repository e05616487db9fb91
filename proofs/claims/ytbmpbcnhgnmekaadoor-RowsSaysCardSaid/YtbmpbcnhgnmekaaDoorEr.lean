/- cubitref6.rowWords of a line. Conditions: lines of at most 70000 bytes. -/
import Derived.Test.YtbmpbcnhgnmekaaDoorEj
import Derived.Test.YtbmpbcnhgnmekaaDoorEk
open Go.RowKit
set_option maxRecDepth 100000
namespace Go.Proofs.YtbmpbcnhgnmekaaDoor
/-- What the words come to: the words so far, the word begun, the bytes ahead. -/
def goW : List UInt8 → List ByteArray → List UInt8 → List ByteArray
  | [], ws, wd => if wd = [] then ws else ws ++ [⟨wd.toArray⟩]
  | c :: cs, ws, wd => if c = 32 then (if wd = [] then goW cs ws [] else goW cs (ws ++ [⟨wd.toArray⟩]) []) else if c = 35 ∧ wd = [] then ws else goW cs ws (wd ++ [c])
theorem wordsIn_cons {p : ByteArray} {ps : List ByteArray} (h : isRemark p = false) : wordsIn (p :: ps) = if p.data.toList = [] then wordsIn ps else p :: wordsIn ps := by
  unfold isRemark at h
  unfold wordsIn
  rw [List.takeWhile_cons, if_pos (by rw [h]; rfl), List.filter_cons]
  by_cases h1 : p.data.toList = []
  · rw [if_pos h1, if_neg (by simpa using h1)]
  · rw [if_neg h1, if_pos (by simpa using h1)]
theorem wordsIn_rem {p : ByteArray} {ps : List ByteArray} (h : isRemark p = true) : wordsIn (p :: ps) = [] := by
  unfold isRemark at h
  unfold wordsIn
  rw [List.takeWhile_cons, if_neg (by rw [h]; decide)]; rfl
def piecesL (c : UInt8) (l : List UInt8) : List ByteArray := (cutBy c l).map fun l => ⟨l.toArray⟩
theorem goW_eq : ∀ (cs : List UInt8) (ws : List ByteArray) (wd : List UInt8), ¬ (32 : UInt8) ∈ wd → wd.head? ≠ some 35 → goW cs ws wd = ws ++ wordsIn (piecesL 32 (wd ++ cs))
  | [], ws, wd, h1, h2 => by
    have hr : isRemark ⟨wd.toArray⟩ = false := by unfold isRemark; simpa using h2
    rw [goW, List.append_nil]
    unfold piecesL
    rw [cutBy_plain h1, List.map_cons, List.map_nil, wordsIn_cons hr]
    by_cases h3 : wd = []
    · rw [if_pos h3, if_pos (by simpa using h3)]; simp [wordsIn]
    · rw [if_neg h3, if_neg (by simpa using h3)]; rfl
  | c :: cs, ws, wd, h1, h2 => by
    have hr : isRemark ⟨wd.toArray⟩ = false := by unfold isRemark; simpa using h2
    rw [goW]
    by_cases hc : c = 32
    · subst hc
      have e : piecesL 32 (wd ++ 32 :: cs) = ⟨wd.toArray⟩ :: piecesL 32 cs := by unfold piecesL; rw [cutBy_lead h1]; rfl
      rw [if_pos rfl, e, wordsIn_cons hr]
      by_cases h3 : wd = []
      · rw [if_pos h3, if_pos (by simpa using h3), goW_eq cs ws [] (by simp) (by simp)]; rfl
      · rw [if_neg h3, if_neg (by simpa using h3), goW_eq cs _ [] (by simp) (by simp)]; simp
    · rw [if_neg hc]
      by_cases h3 : c = 35 ∧ wd = []
      · rw [if_pos h3]
        obtain ⟨rfl, rfl⟩ := h3
        obtain ⟨p, ps, hp⟩ := cutBy_form (a := (32 : UInt8)) cs
        have e : piecesL 32 ([] ++ 35 :: cs) = ⟨(35 :: p).toArray⟩ :: ps.map (fun l => ⟨l.toArray⟩) := by
          unfold piecesL
          rw [List.nil_append, cutBy_miss (by decide) hp]; rfl
        rw [e, wordsIn_rem (by unfold isRemark; rfl), List.append_nil]
      · rw [if_neg h3, goW_eq cs ws (wd ++ [c]) (by simp; exact ⟨h1, fun e => hc e.symm⟩) (by
          cases wd with
          | nil => simp; intro e; exact h3 ⟨e, rfl⟩
          | cons a wd => simpa using h2)]
        simp
theorem wordsB_go (s : ByteArray) : goW s.data.toList [] [] = wordsB s := by
  rw [goW_eq _ _ _ (by simp) (by simp)]; rfl
section
variable {s : ByteArray} {k : Nat} {ws : List ByteArray} {wd : List UInt8}
theorem drop_at (h : k < s.size) : s.data.toList.drop k = s[k] :: s.data.toList.drop (k + 1) := List.drop_eq_getElem_cons (by simpa using h)
theorem goW_sp (h : k < s.size) (hc : s[k] = 32) : goW (s.data.toList.drop k) ws wd = if wd = [] then goW (s.data.toList.drop (k + 1)) ws [] else goW (s.data.toList.drop (k + 1)) (ws ++ [⟨wd.toArray⟩]) [] := by
  rw [drop_at h, goW, if_pos hc]
theorem goW_rm (h : k < s.size) (hc : s[k] = 35) (hw : wd = []) : goW (s.data.toList.drop k) ws wd = ws := by
  rw [drop_at h, goW, if_neg (by rw [hc]; decide), if_pos ⟨hc, hw⟩]
theorem goW_ch (h : k < s.size) (hc : s[k] ≠ 32) (hw : ¬ (s[k] = 35 ∧ wd = [])) : goW (s.data.toList.drop k) ws wd = goW (s.data.toList.drop (k + 1)) ws (wd ++ [s[k]]) := by
  rw [drop_at h, goW, if_neg hc, if_neg hw]
theorem goW_end (h : k = s.size) : goW (s.data.toList.drop k) ws wd = if wd = [] then ws else ws ++ [⟨wd.toArray⟩] := by
  rw [List.drop_of_length_le (by rw [h, Lib.size_eq]; exact Nat.le_refl _), goW]
end
/-- What rowWords leaves of a line. -/
def RowWR (w : World) (ok : Bool) (ws : List ByteArray) (e : Ending) (w' : World) : Prop :=
  ∃ A c, e = .returned (.tuple #[.slice A ws.length c, .bool ok]) ∧ (A = none → c = 0) ∧ Hid (w'.ownsRow w.heap.size 9 1 (.slice A ws.length c) ws.length (ws.map Value.string)) ∧ Hid (Below w.heap.size w w')
end Go.Proofs.YtbmpbcnhgnmekaaDoor
