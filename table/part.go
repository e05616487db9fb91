package table

import (
	"iter"

	"cubit/api"
	"cubit/atom"
	"cubit/nat"
	"cubit/num"
	"cubit/rat"
	"cubit/unit"
)

// maxDigits is the greatest number of digits over and under the line of a
// factor with respect to the bases.
const maxDigits = 100

// topBit is the highest bit that the power of an atom may have, from 1 to
// MaxPower.
const topBit = 8

// term is a fraction that is greater than 0, and its power, from 1 to MaxPower.
type term struct {
	over, under nat.N
	power       int
}

// signedAtoms goes through the atoms of p: those of Num with 1, and then those
// of Den with -1, which is the sign of their powers.
func signedAtoms(p unit.Part) iter.Seq2[atom.Atom, int] {
	return func(yield func(a atom.Atom, sign int) bool) {
		for _, a := range p.Num {
			if !yield(a, 1) {
				return
			}
		}
		for _, a := range p.Den {
			if !yield(a, -1) {
				return
			}
		}
	}
}

// namesOffset reports whether an atom of p names a unit that has an Offset.
func (t *Table) namesOffset(p unit.Part) bool {
	for a := range signedAtoms(p) {
		if t.units[a.Name].entry.HasOffset {
			return true
		}
	}
	return false
}

// isBase reports whether id is just the name of a base.
func (t *Table) isBase(id string) bool {
	m, ok := t.units[id]
	return ok && m.entry.Base != noBase
}

// termsOf returns the terms whose product is the factor of u, or false if there
// is none.
func (t *Table) termsOf(u unit.Part) ([]term, bool) {
	terms := []term{{over: nat.Of(1), under: u.Const, power: 1}}
	for a, sign := range signedAtoms(u) {
		factor, ok := t.plainFactor(a)
		if !ok || a.Power < 1 || a.Power > api.MaxPower {
			return nil, false
		}
		over, under := factor.P.N, factor.Q
		if sign < 0 {
			over, under = under, over
		}
		terms = append(terms, term{over, under, a.Power})
	}
	return terms, nat.Cmp(u.Const, nat.N{}) != 0
}

// plainFactor returns the factor of a without its Power, or false if its Name or
// its Prefix does not exist.
func (t *Table) plainFactor(a atom.Atom) (rat.Q, bool) {
	m, isUnit := t.units[a.Name]
	if a.Prefix == "" {
		return m.factor, isUnit
	}
	value, isPrefix := t.values[a.Prefix]
	return rat.Mul(value, m.factor), isUnit && isPrefix
}

// product returns the product of all terms, in new memory.
func product(terms []term) rat.Q {
	result := rat.Int(1)
	// All powers grow together, bit by bit, so that what cancels does so before
	// it becomes long.
	for bit := topBit; bit > 0; bit /= 2 {
		over, under := nat.Mul(result.P.N, result.P.N), nat.Mul(result.Q, result.Q)
		for _, x := range terms {
			if x.power&bit != 0 {
				over, under = nat.Mul(over, x.over), nat.Mul(under, x.under)
			}
		}
		// Nothing that is multiplied under the line is 0.
		result, _ = rat.Of(num.Z{N: over}, under)
	}
	return result
}

// isLong reports whether a positive factor has more digits than it may have,
// over or under its line.
func isLong(factor rat.Q) bool {
	tooGreat := nat.Pow(nat.Of(10), maxDigits)
	return nat.Cmp(factor.P.N, tooGreat) >= 0 || nat.Cmp(factor.Q, tooGreat) >= 0
}
