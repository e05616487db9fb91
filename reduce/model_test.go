package reduce_test

import (
	"math/big"
	"slices"

	"cubit/api"
	"cubit/atom"
	"cubit/dims"
	"cubit/nat"
	"cubit/unit"
)

// measure is what a model knows of a unit: its dimension, and its factor with
// respect to the bases.
type measure struct {
	vec            dims.V
	factor, offset *big.Rat
	hasOffset      bool
}

// model is a table that was made with the library's fractions. It tells what the
// answers should be.
type model struct {
	names, prefixes []string
	units           map[string]measure
	values          map[string]*big.Rat
	bases           int
}

func newModel() *model {
	return &model{units: map[string]measure{}, values: map[string]*big.Rat{}}
}

// add adds a row that a table accepts. An ID is read with the names and the
// prefixes that are there by now, and with no alias.
func (m *model) add(w []string) {
	switch w[0] {
	case "base":
		var v dims.V
		v[m.bases] = 1
		m.bases++
		m.put(w[1], measure{v, big.NewRat(1, 1), new(big.Rat), false})
	case "prefix":
		root, exponent := ratOf(w[2]), int(ratOf(w[3]).Num().Int64())
		m.prefixes = append(m.prefixes, w[1])
		m.values[w[1]] = powerOf(root, exponent)
	case "unit":
		u, _ := unit.Parse(atom.Known{Names: m.names, Prefixes: m.prefixes}, w[3])
		sum, _ := m.of(u.Parts[0])
		x := measure{sum.vec, new(big.Rat).Mul(ratOf(w[2]), sum.factor), new(big.Rat), len(w) == 5}
		if x.hasOffset {
			x.offset = ratOf(w[4])
		}
		m.put(w[1], x)
	}
}

func (m *model) put(name string, x measure) {
	m.names = append(m.names, name)
	m.units[name] = x
}

// atom judges an atom and works it out.
func (m *model) atom(a atom.Atom) (measure, api.Errno) {
	x, isUnit := m.units[a.Name]
	value, isPrefix := m.values[a.Prefix]
	if a.Prefix == "" {
		value, isPrefix = big.NewRat(1, 1), true
	}
	switch {
	case !isUnit, !isPrefix:
		return measure{}, api.ENONE
	case a.Power < 1, a.Power > 15:
		return measure{}, api.EARG
	case x.hasOffset && a.Prefix != "", x.hasOffset && a.Power != 1:
		return measure{}, api.EOFFSET
	}
	for i := range x.vec {
		x.vec[i] *= a.Power
	}
	if !isVector(x.vec) {
		return measure{}, api.EDIM
	}
	x.factor = powerOf(new(big.Rat).Mul(x.factor, value), a.Power)
	return x, api.OK
}

// of judges a part atom by atom, and works it out.
func (m *model) of(p unit.Part) (measure, api.Errno) {
	number := new(big.Rat).SetInt(bigNat(p.Const))
	alone := len(p.Num) == 1 && len(p.Den) == 0 && number.Cmp(big.NewRat(1, 1)) == 0
	sum := measure{factor: big.NewRat(1, 1), offset: new(big.Rat)}
	for i, a := range slices.Concat(p.Num, p.Den) {
		x, e := m.atom(a)
		if e != api.OK {
			return measure{}, e
		}
		if x.hasOffset && !alone {
			return measure{}, api.EOFFSET
		}
		sign := 1
		if i >= len(p.Num) {
			sign = -1
		}
		for j, exponent := range x.vec {
			sum.vec[j] += sign * exponent
		}
		if !isVector(sum.vec) {
			return measure{}, api.EDIM
		}
		sum.factor.Mul(sum.factor, powerOf(x.factor, sign))
		sum.offset, sum.hasOffset = x.offset, x.hasOffset
	}
	if number.Sign() == 0 {
		return measure{}, api.EZERO
	}
	sum.factor.Quo(sum.factor, number)
	return sum, api.OK
}

// powerOf multiplies as often as the power says.
func powerOf(x *big.Rat, power int) *big.Rat {
	product := big.NewRat(1, 1)
	for range max(power, -power) {
		product.Mul(product, x)
	}
	if power < 0 {
		product.Inv(product)
	}
	return product
}

func isVector(v dims.V) bool {
	return slices.Min(v[:]) >= -100 && slices.Max(v[:]) <= 100
}

// bigNat makes a number of the library, which tells what a number counts as even
// if it is not valid.
func bigNat(n nat.N) *big.Int {
	value := new(big.Int)
	for _, word := range slices.Backward(n.L) {
		value.Lsh(value, 32)
		value.Or(value, big.NewInt(int64(word)))
	}
	return value
}

// ratOf returns the fraction that s, which has its form, writes.
func ratOf(s string) *big.Rat {
	r, ok := new(big.Rat).SetString(s)
	if !ok {
		panic(s)
	}
	return r
}
