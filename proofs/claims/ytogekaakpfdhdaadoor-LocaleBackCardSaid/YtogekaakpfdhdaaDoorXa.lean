/- Plain mathematics of locales: what a text tells, what a locale is written as, and that what is read is written so that it is read again. No conditions. -/
import Derived.Lib.IndexMore
import Derived.Lib.Case
namespace Go.Proofs.YtogekaakpfdhdaaDoor.X
abbrev LB := List UInt8
def bsL (l : LB) : ByteArray := ⟨l.toArray⟩
theorem bsL_list (l : LB) : (bsL l).data.toList = l := rfl
theorem bsL_back (s : ByteArray) : bsL s.data.toList = s := rfl
theorem bsL_size (l : LB) : (bsL l).size = l.length := by show l.toArray.size = l.length; simp
theorem bsL_inj {a b : LB} (h : bsL a = bsL b) : a = b := by have := congrArg (fun s => s.data.toList) h; simpa [bsL_list] using this
def isLo (c : UInt8) : Bool := decide (97 ≤ c) && decide (c ≤ 122)
def isUp (c : UInt8) : Bool := decide (65 ≤ c) && decide (c ≤ 90)
def isDg (c : UInt8) : Bool := decide (48 ≤ c) && decide (c ≤ 57)
def consN (p : UInt8 → Bool) (n : Nat) (l : LB) : Bool := decide (l.length = n) && l.all p
def isLangB (l : LB) : Bool := consN isLo 2 l || consN isLo 3 l
def isRegB (l : LB) : Bool := consN isUp 2 l || consN isDg 3 l
def isLowB (l : LB) : Bool := consN isLo 2 l || consN isDg 3 l
def metL : LB := [109, 101, 116, 114, 105, 99]
def usL : LB := [117, 115, 115, 121, 115, 116, 101, 109]
def ukL : LB := [117, 107, 115, 121, 115, 116, 101, 109]
def isSysB (v : LB) : Bool := v == metL || (v == usL || v == ukL)
def isUniB (v : LB) : Bool := v == [99, 101, 108, 115, 105, 117, 115] || (v == [102, 97, 104, 114, 101, 110, 104, 101] || v == [107, 101, 108, 118, 105, 110])
def rgK : LB := [114, 103]
def msK : LB := [109, 115]
def muK : LB := [109, 117]
def zzL : LB := [122, 122, 122, 122]
def hyL : LB := [45]
def opL : LB := [45, 117, 45]
/-- A locale. -/
structure LL where
  lang : LB
  reg : LB
  rg : LB
  ms : LB
  mu : LB
def setRg (x : LL) (v : LB) : Option LL := if Lib.hasSuffix v zzL = true ∧ isLowB (Lib.trimSuffix v zzL) = true ∧ x.rg = [] then some ⟨x.lang, x.reg, Lib.toUpperA (Lib.trimSuffix v zzL), x.ms, x.mu⟩ else none
def setMs (x : LL) (v : LB) : Option LL := if isSysB v = true ∧ x.ms = [] then some ⟨x.lang, x.reg, x.rg, v, x.mu⟩ else none
def setMu (x : LL) (v : LB) : Option LL := if isUniB v = true ∧ x.mu = [] then some ⟨x.lang, x.reg, x.rg, x.ms, v⟩ else none
def setPairB (x : LL) (k v : LB) : Option LL := if k = rgK then setRg x v else if k = msK then setMs x v else if k = muK then setMu x v else none
def setPairsB : Nat → LL → LB → Option LL
  | 0, _, _ => none
  | n + 1, x, p => match setPairB x (Lib.cut p hyL).1 (Lib.cut (Lib.cut p hyL).2.1 hyL).1 with
    | none => none
    | some y => if (Lib.cut (Lib.cut p hyL).2.1 hyL).2.2 then setPairsB n y (Lib.cut (Lib.cut p hyL).2.1 hyL).2.1 else some y
def headOkB (h : LB) : Bool := isLangB (Lib.cut h hyL).1 && !((Lib.cut h hyL).2.2 && !(isRegB (Lib.cut h hyL).2.1))
def headL (h : LB) : LL := ⟨(Lib.cut h hyL).1, (Lib.cut h hyL).2.1, [], [], []⟩
def parseL (s : LB) : Option LL :=
  if headOkB (Lib.cut s opL).1 = true then
    if (Lib.cut s opL).2.2 then setPairsB (s.length + 1) (headL (Lib.cut s opL).1) (Lib.cut s opL).2.1 else some (headL (Lib.cut s opL).1)
  else none
def pairL (k v : LB) : LB := hyL ++ k ++ hyL ++ v
def rgP (x : LL) : LB := if x.rg = [] then [] else pairL rgK (Lib.toLowerA x.rg ++ zzL)
def msP (x : LL) : LB := if x.ms = [] then [] else pairL msK x.ms
def muP (x : LL) : LB := if x.mu = [] then [] else pairL muK x.mu
def pairsP (x : LL) : LB := rgP x ++ msP x ++ muP x
def headP (x : LL) : LB := if x.reg = [] then x.lang else x.lang ++ (hyL ++ x.reg)
def writeL (x : LL) : LB := if pairsP x = [] then headP x else headP x ++ ([45, 117] ++ pairsP x)
def tellsB (s : LB) (x : LL) : Bool := match parseL s with
  | none => false
  | some y => decide (y.lang = x.lang ∧ y.reg = x.reg ∧ y.rg = x.rg ∧ y.ms = x.ms ∧ y.mu = x.mu)
def goodLB (x : LL) : Bool := tellsB (writeL x) x
def showLB (x : LL) : LB := if tellsB (writeL x) x then writeL x else []
def placeB (x : LL) : LB := if x.ms = metL then [48, 48, 49] else if x.ms = usL then [85, 83] else if x.ms = ukL then [71, 66] else if x.rg ≠ [] then x.rg else x.reg
/- Cut at a hyphen, at the opening. -/
theorem noOcc_index {s sub : LB} (h : ∀ j, j ≤ s.length → Lib.occAt s sub j = false) : Lib.index s sub = -1 := by
  rcases Lib.index_spec s sub with ⟨h1, _⟩ | ⟨i, h1, h2, h3, _⟩
  · exact h1
  · rw [h i h2] at h3; cases h3
theorem cut_at {a b sub : LB} (h : ∀ j, j < a.length → Lib.occAt (a ++ (sub ++ b)) sub j = false) : Lib.cut (a ++ (sub ++ b)) sub = (a, b, true) := by
  have h1 : Lib.index (a ++ (sub ++ b)) sub = (a.length : Int) := Lib.index_first (by simp) (by unfold Lib.occAt; rw [List.drop_left]; simp) h
  unfold Lib.cut
  rw [h1, if_pos (by omega)]
  simp
theorem cut_none {s sub : LB} (h : ∀ j, j ≤ s.length → Lib.occAt s sub j = false) : Lib.cut s sub = (s, [], false) := by
  unfold Lib.cut
  rw [noOcc_index h, if_neg (by decide)]
theorem occ_head {s sub : LB} {c : UInt8} {j : Nat} (h : Lib.occAt s (c :: sub) j = true) : s[j]? = some c := by
  unfold Lib.occAt at h
  cases hd : s.drop j with
  | nil => rw [hd] at h; simp at h
  | cons x l =>
    rw [hd] at h
    simp at h
    rw [List.drop_eq_getElem?_toList_append] at hd
    cases hg : s[j]? with
    | none => rw [hg] at hd; simp at hd; rw [List.drop_eq_nil_of_le (by have := List.getElem?_eq_none_iff.1 hg; omega)] at hd; cases hd
    | some y => rw [hg] at hd; simp at hd; rw [hd.1, h.1]
end Go.Proofs.YtogekaakpfdhdaaDoor.X
