package reduce

import (
	"slices"

	"cubit/atom"
	"cubit/nat"
	"cubit/num"
	"cubit/rat"
	"cubit/table"
	"cubit/unit"
)

// topBit is the highest bit that the power of an atom may have, from 1 to
// MaxPower.
const topBit = 8

// scale tells the factors of parts and units with respect to the bases.
type scale struct {
	table *table.Table
	// units has the factors that are known already: the IDs of many units may
	// name one and the same, which must not be worked out anew each time.
	units map[string]rat.Q
}

// term is a fraction that is greater than 0, and its power, from 1 to MaxPower.
type term struct {
	over, under nat.N
	power       int
}

func newScale(t *table.Table) *scale {
	return &scale{table: t, units: map[string]rat.Q{}}
}

// part returns the factor of p, in which all names exist and Const is not 0.
func (s *scale) part(p unit.Part) rat.Q {
	return product(s.partTerms(p))
}

// unit returns the factor of the unit of that name, which exists.
func (s *scale) unit(name string) rat.Q {
	if factor, ok := s.units[name]; ok {
		return factor
	}
	entry, _ := s.table.Entry(name)
	factor := entry.Factor
	if entry.Base < 0 {
		// The two are one product, so that what cancels never becomes long.
		factor = product(append(s.partTerms(s.definition(entry)), termOf(entry.Factor, 1)))
	}
	s.units[name] = factor
	return factor
}

// definition returns the part that the ID of a unit, which is no base, is.
func (s *scale) definition(entry table.Entry) unit.Part {
	// An ID consists of names that were defined before. A later name or an
	// alias may be spelled like a prefix and a name in it, and what a later name
	// is may rest on this very unit. Which prefixes came later is not told.
	k := s.table.Known()
	k.Names = k.Names[:slices.Index(k.Names, entry.Name)]
	u, _ := unit.Parse(k, entry.ID)
	return u.Parts[0]
}

// partTerms returns the terms whose product is the factor of p.
func (s *scale) partTerms(p unit.Part) []term {
	terms := []term{{over: nat.Of(1), under: p.Const, power: 1}}
	for _, a := range p.Num {
		terms = append(terms, s.atomTerms(a)...)
	}
	for _, a := range p.Den {
		for _, x := range s.atomTerms(a) {
			terms = append(terms, term{over: x.under, under: x.over, power: x.power})
		}
	}
	return terms
}

// atomTerms returns the terms whose product is the factor of a.
func (s *scale) atomTerms(a atom.Atom) []term {
	terms := []term{termOf(s.unit(a.Name), a.Power)}
	if value, ok := s.table.Prefix(a.Prefix); ok {
		terms = append(terms, termOf(value, a.Power))
	}
	return terms
}

func termOf(factor rat.Q, power int) term {
	return term{over: factor.P.N, under: factor.Q, power: power}
}

// product returns the product of all terms, in new memory.
func product(terms []term) rat.Q {
	result := rat.Int(1)
	// All powers grow together, bit by bit, so that what cancels does so before
	// it becomes long.
	for bit := topBit; bit > 0; bit /= 2 {
		over, under := nat.Mul(result.P.N, result.P.N), nat.Mul(result.Q, result.Q)
		for _, x := range terms {
			if x.power&bit != 0 {
				over, under = nat.Mul(over, x.over), nat.Mul(under, x.under)
			}
		}
		// Nothing that is multiplied under the line is 0.
		result, _ = rat.Of(num.Z{N: over}, under)
	}
	return result
}
