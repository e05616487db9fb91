/- bits.Len32 of a word: how many bits it takes. No conditions but a word's own. -/
import Derived.Test.YthdpojkeceoiiaaDoorProg
import Derived.Lib.Strings
import Derived.Lib.Slices
import Derived.Lib.Small
import Derived.Lib.Walk
import Derived.Lib.BitFns
set_option maxRecDepth 100000
namespace Go.Proofs.YthdpojkeceoiiaaDoor
/-- A word that has k whole bits below its highest byte. -/
theorem len_cut (k : Nat) {t q : Nat} (hq : q = t / 2 ^ k) (hq8 : q < 256) (h1 : 2 ^ k ≤ t) (h2 : t < 2 ^ 64) : Lib.len8 (q : Int) = (Lib.bitLen q : Int) ∧ Lib.bitLen q ≤ 8 ∧ Lib.bitLen t = k + Lib.bitLen q := by
  have a1 := Lib.len8_of (q : Int) (by omega) (by omega)
  have a2 := Lib.bitLen_le8' (q : Int) (by omega) (by omega)
  rw [Int.toNat_natCast] at a1 a2
  exact ⟨a1, a2, by rw [hq]; exact Lib.bitLen_shift k t h1 h2⟩
end Go.Proofs.YthdpojkeceoiiaaDoor
