package table_test

import (
	"math/big"
	"regexp"
	"slices"

	"cubit/api"
	"cubit/atom"
	"cubit/dims"
	"cubit/nat"
	"cubit/unit"
)

// The forms as the chapters say them.
var (
	nameForm     = regexp.MustCompile(`\A[a-z0-9]{1,20}\z`)
	reservedForm = regexp.MustCompile(`\A(per|and|square|cubic|[0-9]+|pow[0-9]+)\z`)
	quantityForm = regexp.MustCompile(`\A[a-z0-9]{1,20}(-[a-z0-9]{1,20})*\z`)
	rootForm     = regexp.MustCompile(`\A(10|2)\z`)
	exponentForm = regexp.MustCompile(`\A(0|-?([1-9]|[12][0-9]|30))\z`)
	fractionForm = regexp.MustCompile(`\A-?[0-9]+(/[0-9]*[1-9][0-9]*)?\z`)
)

// measure is what a model knows of a unit. The fractions are texts.
type measure struct {
	id             string
	base           int
	factor, offset string
	hasOffset      bool
	vec            dims.V
	whole          *big.Rat
}

// model is a table as the chapter describes it, made with the library's numbers
// and patterns. It tells what the answers of a table should be.
type model struct {
	names, prefixes []string
	units           map[string]measure
	values          map[string]*big.Rat
	aliases         map[string]string
	quantities      map[dims.V]string
	bases           int
}

func newModel() *model {
	return &model{
		units: map[string]measure{}, values: map[string]*big.Rat{},
		aliases: map[string]string{}, quantities: map[dims.V]string{},
	}
}

func (m *model) known() atom.Known {
	return atom.Known{Names: m.names, Prefixes: m.prefixes}
}

// add adds a row, or returns the error that it should have.
func (m *model) add(w []string) api.Errno {
	if len(w) == 0 {
		return api.OK
	}
	switch w[0] {
	case "base":
		return m.base(w)
	case "prefix":
		return m.prefix(w)
	case "unit":
		return m.unit(w)
	case "quantity":
		return m.quantity(w)
	case "alias":
		return m.alias(w)
	}
	return api.OK
}

func (m *model) base(w []string) api.Errno {
	switch {
	case len(w) != 3, !isName(w[1]):
		return api.EFORM
	case m.isTaken(w[1]):
		return api.ETWICE
	case !isQuantity(w[2]):
		return api.EFORM
	case m.bases == 8:
		return api.ESIZE
	}
	var v dims.V
	v[m.bases] = 1
	if m.quantities[v] != "" {
		return api.ETWICE
	}
	m.quantities[v] = w[2]
	m.names = append(m.names, w[1])
	m.units[w[1]] = measure{id: w[1], base: m.bases, factor: "1", offset: "0", vec: v, whole: big.NewRat(1, 1)}
	m.bases++
	return api.OK
}

func (m *model) prefix(w []string) api.Errno {
	switch {
	case len(w) != 4, !isName(w[1]):
		return api.EFORM
	case slices.Contains(m.prefixes, w[1]):
		return api.ETWICE
	case !rootForm.MatchString(w[2]), !exponentForm.MatchString(w[3]):
		return api.EFORM
	}
	root, _ := new(big.Int).SetString(w[2], 10)
	exponent, _ := new(big.Int).SetString(w[3], 10)
	value := new(big.Rat).SetInt(new(big.Int).Exp(root, new(big.Int).Abs(exponent), nil))
	if exponent.Sign() < 0 {
		value.Inv(value)
	}
	m.prefixes = append(m.prefixes, w[1])
	m.values[w[1]] = value
	return api.OK
}

func (m *model) unit(w []string) api.Errno {
	switch {
	case len(w) != 4 && len(w) != 5, !isName(w[1]):
		return api.EFORM
	case m.isTaken(w[1]):
		return api.ETWICE
	case !isFraction(w[2]), ratOf(w[2]).Sign() <= 0:
		return api.EFORM
	}
	p, e := m.part(w[3])
	hasOffset := len(w) == 5
	switch {
	case e != api.OK:
		return e
	case hasOffset && !isFraction(w[4]):
		return api.EFORM
	case hasOffset && !m.isBase(w[3]), m.hasOffset(p):
		return api.EOFFSET
	}
	v, ok := m.vec(p)
	whole := new(big.Rat).Mul(ratOf(w[2]), m.factor(p))
	switch {
	case !ok:
		return api.EDIM
	case len(whole.Num().String()) > 100, len(whole.Denom().String()) > 100:
		return api.ESIZE
	}
	unit := measure{id: w[3], base: -1, factor: ratOf(w[2]).RatString(), offset: "0", hasOffset: hasOffset, vec: v, whole: whole}
	if hasOffset {
		unit.offset = ratOf(w[4]).RatString()
	}
	m.names = append(m.names, w[1])
	m.units[w[1]] = unit
	return api.OK
}

func (m *model) quantity(w []string) api.Errno {
	if len(w) != 3 || !isQuantity(w[1]) {
		return api.EFORM
	}
	p, e := m.part(w[2])
	if e != api.OK {
		return e
	}
	v, ok := m.vec(p)
	switch {
	case !ok:
		return api.EDIM
	case m.quantities[v] != "":
		return api.ETWICE
	}
	m.quantities[v] = w[1]
	return api.OK
}

func (m *model) alias(w []string) api.Errno {
	switch {
	case len(w) != 3, !isName(w[1]):
		return api.EFORM
	case m.isTaken(w[1]):
		return api.ETWICE
	}
	if _, e := m.part(w[2]); e != api.OK {
		return e
	}
	m.aliases[w[1]] = w[2]
	return api.OK
}

// isTaken is for the group of the units and the aliases.
func (m *model) isTaken(name string) bool {
	return slices.Contains(m.names, name) || m.aliases[name] != ""
}

func (m *model) isBase(id string) bool {
	u, ok := m.units[id]
	return ok && u.base >= 0
}

func (m *model) part(id string) (unit.Part, api.Errno) {
	u, e := unit.Parse(m.known(), id)
	if e != api.OK {
		return unit.Part{}, e
	}
	if len(u.Parts) > 1 {
		return unit.Part{}, api.EFORM
	}
	return u.Parts[0], api.OK
}

func (m *model) hasOffset(p unit.Part) bool {
	return slices.ContainsFunc(slices.Concat(p.Num, p.Den), func(a atom.Atom) bool { return m.units[a.Name].hasOffset })
}

// vec adds up exponent by exponent, and looks at every one on the way. The
// powers are those of parsed atoms.
func (m *model) vec(p unit.Part) (dims.V, bool) {
	var sum dims.V
	for i, a := range slices.Concat(p.Num, p.Den) {
		u, ok := m.units[a.Name]
		if !ok {
			return dims.V{}, false
		}
		sign := 1
		if i >= len(p.Num) {
			sign = -1
		}
		for base, exponent := range u.vec {
			product := exponent * a.Power * sign
			sum[base] += product
			if max(product, -product, sum[base], -sum[base]) > 100 {
				return dims.V{}, false
			}
		}
	}
	return sum, true
}

// factor multiplies atom by atom, as often as its power says.
func (m *model) factor(p unit.Part) *big.Rat {
	number, _ := new(big.Int).SetString(nat.Text(p.Const), 10)
	product := new(big.Rat).SetFrac(big.NewInt(1), number)
	for i, a := range slices.Concat(p.Num, p.Den) {
		factor := new(big.Rat).Set(m.units[a.Name].whole)
		if a.Prefix != "" {
			factor.Mul(factor, m.values[a.Prefix])
		}
		if i >= len(p.Num) {
			factor.Inv(factor)
		}
		for range a.Power {
			product.Mul(product, factor)
		}
	}
	return product
}

func isName(s string) bool {
	return nameForm.MatchString(s) && !reservedForm.MatchString(s)
}

func isQuantity(s string) bool {
	return quantityForm.MatchString(s) && len(s) <= 256
}

func isFraction(s string) bool {
	return fractionForm.MatchString(s) && len(s) <= 100
}

// ratOf returns the fraction that s, which has its form, writes.
func ratOf(s string) *big.Rat {
	r, ok := new(big.Rat).SetString(s)
	if !ok {
		panic(s)
	}
	return r
}
