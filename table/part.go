package table

import (
	"iter"

	"cubit/atom"
	"cubit/nat"
	"cubit/num"
	"cubit/rat"
	"cubit/unit"
)

// maxDigits is the greatest number of digits over and under the line of a
// factor with respect to the bases.
const maxDigits = 100

// topBit is the highest bit that the power of an atom may have, from 1 to
// MaxPower.
const topBit = 8

// signedAtoms goes through the atoms of p: those of Num with 1, and then those
// of Den with -1, which is the sign of their powers.
func signedAtoms(p unit.Part) iter.Seq2[atom.Atom, int] {
	return func(yield func(a atom.Atom, sign int) bool) {
		for _, a := range p.Num {
			if !yield(a, 1) {
				return
			}
		}
		for _, a := range p.Den {
			if !yield(a, -1) {
				return
			}
		}
	}
}

// namesOffset reports whether an atom of p names a unit that has an Offset.
func (t *Table) namesOffset(p unit.Part) bool {
	for a := range signedAtoms(p) {
		if t.units[a.Name].entry.HasOffset {
			return true
		}
	}
	return false
}

// isBase reports whether id is just the name of a base.
func (t *Table) isBase(id string) bool {
	m, ok := t.units[id]
	return ok && m.entry.Base != noBase
}

// factorOf returns the factor of p, which was parsed, with respect to the bases.
func (l *loader) factorOf(p unit.Part) rat.Q {
	product := rat.Int(1)
	// All powers grow together, bit by bit, so that what cancels does so before
	// it becomes long.
	for bit := topBit; bit > 0; bit /= 2 {
		product, _ = rat.Pow(product, 2)
		for a, sign := range signedAtoms(p) {
			if a.Power&bit != 0 {
				product = rat.Mul(product, l.turnedFactor(a, sign))
			}
		}
	}
	under, _ := rat.Of(num.Of(1), p.Const)
	return rat.Mul(product, under)
}

// turnedFactor returns the factor of the prefix and the name of a, to the power
// of sign.
func (l *loader) turnedFactor(a atom.Atom, sign int) rat.Q {
	factor := l.factors[a.Name]
	if value, ok := l.table.values[a.Prefix]; ok {
		factor = rat.Mul(value, factor)
	}
	// No factor is 0, so that each can be turned over.
	turned, _ := rat.Pow(factor, sign)
	return turned
}

// isLong reports whether a positive factor has more digits than it may have,
// over or under its line.
func isLong(factor rat.Q) bool {
	tooGreat := nat.Pow(nat.Of(10), maxDigits)
	return nat.Cmp(factor.P.N, tooGreat) >= 0 || nat.Cmp(factor.Q, tooGreat) >= 0
}
