package table

import (
	"strconv"

	"cubit/api"
	"cubit/atom"
	"cubit/dims"
	"cubit/rat"
	"cubit/rows"
	"cubit/unit"
	"cubit/word"
)

// The kinds of the rows that are read.
const (
	baseRow     = "base"
	prefixRow   = "prefix"
	unitRow     = "unit"
	quantityRow = "quantity"
	aliasRow    = "alias"
)

// maxFraction is the greatest number of bytes in a fraction of a row.
const maxFraction = 100

// noBase is the Base of a unit that is none.
const noBase = -1

// loader reads rows into a table.
type loader struct {
	table *Table
	bases int
}

// Load returns the table that the rows describe, or the line and the error of
// the first row that is wrong.
func Load(l []rows.Row) (*Table, int, api.Errno) {
	reader := newLoader()
	for _, row := range l {
		if e := reader.readRow(row.W); e != api.OK {
			return nil, row.Line, e
		}
	}
	return reader.table, 0, api.OK
}

func newLoader() *loader {
	t := &Table{
		units:      map[string]measure{},
		values:     map[string]rat.Q{},
		aliases:    map[string]alias{},
		quantities: dims.NewNames(),
	}
	return &loader{table: t}
}

// readRow reads one row, which is ignored if it is of another kind.
func (l *loader) readRow(w []string) api.Errno {
	if len(w) == 0 {
		return api.OK
	}
	switch kind, size := w[0], len(w); {
	case kind == baseRow && size == 3:
		return l.addBase(w[1], w[2])
	case kind == prefixRow && size == 4:
		return l.addPrefix(w[1], w[2], w[3])
	case kind == unitRow && (size == 4 || size == 5):
		return l.addUnit(w[1], w[2], w[3], w[4:])
	case kind == quantityRow && size == 3:
		return l.addQuantity(w[1], w[2])
	case kind == aliasRow && size == 3:
		return l.addAlias(w[1], w[2])
	case isKind(kind):
		return api.EFORM
	}
	return api.OK
}

// addBase adds the next base.
func (l *loader) addBase(name, quantity string) api.Errno {
	if e := l.checkUnitName(name); e != api.OK {
		return e
	}
	if !isQuantityName(quantity) {
		return api.EFORM
	}
	if l.bases == api.MaxBases {
		return api.ESIZE
	}
	v, _ := dims.Base(l.bases)
	if !l.table.quantities.Put(v, quantity) {
		return api.ETWICE
	}
	l.put(Entry{Name: name, ID: name, Base: l.bases, Factor: rat.Int(1), Offset: rat.Int(0)}, v, rat.Int(1))
	l.bases++
	return api.OK
}

// addPrefix adds a prefix with the value of base to the power of exp.
func (l *loader) addPrefix(name, base, exp string) api.Errno {
	if !isName(name) {
		return api.EFORM
	}
	if _, twice := l.table.values[name]; twice {
		return api.ETWICE
	}
	root, okRoot := readRoot(base)
	exponent, okExponent := readExponent(exp)
	if !okRoot || !okExponent {
		return api.EFORM
	}
	l.table.values[name], _ = rat.Pow(rat.Int(root), exponent)
	l.table.prefixes = append(l.table.prefixes, name)
	return api.OK
}

// addUnit adds a unit. The list has the word for its offset, or nothing.
func (l *loader) addUnit(name, factor, id string, offset []string) api.Errno {
	if e := l.checkUnitName(name); e != api.OK {
		return e
	}
	entry := Entry{Name: name, ID: id, Base: noBase, Offset: rat.Int(0), HasOffset: len(offset) > 0}
	var ok bool
	if entry.Factor, ok = readFraction(factor); !ok || rat.Sign(entry.Factor) <= 0 {
		return api.EFORM
	}
	p, e := l.readPart(id)
	if e != api.OK {
		return e
	}
	if entry.HasOffset {
		if entry.Offset, ok = readFraction(offset[0]); !ok {
			return api.EFORM
		}
	}
	return l.define(entry, p)
}

// define adds a unit whose ID is p, unless the two don't go together.
func (l *loader) define(entry Entry, p unit.Part) api.Errno {
	if entry.HasOffset && !l.table.isBase(entry.ID) || l.table.namesOffset(p) {
		return api.EOFFSET
	}
	v, ok := l.table.Vec(p)
	if !ok {
		return api.EDIM
	}
	// A part that was parsed has a factor.
	factor, _ := l.table.Factor(p)
	factor = rat.Mul(entry.Factor, factor)
	if isLong(factor) {
		return api.ESIZE
	}
	l.put(entry, v, factor)
	return api.OK
}

// put adds a unit that is right.
func (l *loader) put(entry Entry, v dims.V, factor rat.Q) {
	l.table.names = append(l.table.names, entry.Name)
	l.table.units[entry.Name] = measure{entry, v, factor}
}

// addQuantity names the dimension of id.
func (l *loader) addQuantity(name, id string) api.Errno {
	if !isQuantityName(name) {
		return api.EFORM
	}
	p, e := l.readPart(id)
	if e != api.OK {
		return e
	}
	v, ok := l.table.Vec(p)
	if !ok {
		return api.EDIM
	}
	if !l.table.quantities.Put(v, name) {
		return api.ETWICE
	}
	return api.OK
}

// addAlias has the word old read as id.
func (l *loader) addAlias(old, id string) api.Errno {
	if e := l.checkUnitName(old); e != api.OK {
		return e
	}
	if _, e := l.readPart(id); e != api.OK {
		return e
	}
	l.table.aliases[old] = alias{id}
	return api.OK
}

// checkUnitName returns what is wrong with a name that a unit or an alias shall
// have.
func (l *loader) checkUnitName(name string) api.Errno {
	if !isName(name) {
		return api.EFORM
	}
	_, isUnit := l.table.units[name]
	_, isAlias := l.table.aliases[name]
	if isUnit || isAlias {
		return api.ETWICE
	}
	return api.OK
}

// readPart returns the only part of id, in which no alias may stand.
func (l *loader) readPart(id string) (unit.Part, api.Errno) {
	u, e := unit.Parse(l.table.known(), id)
	switch {
	case e != api.OK:
		return unit.Part{}, e
	case len(u.Parts) != 1:
		return unit.Part{}, api.EFORM
	}
	return u.Parts[0], api.OK
}

// isKind reports whether rows of that kind are read.
func isKind(kind string) bool {
	switch kind {
	case baseRow, prefixRow, unitRow, quantityRow, aliasRow:
		return true
	}
	return false
}

// isName reports whether a unit, a prefix or an alias may have that name.
func isName(name string) bool {
	return atom.Good(atom.Known{Names: []string{name}})
}

func isQuantityName(name string) bool {
	_, e := word.Split(name)
	return e == api.OK
}

// readRoot returns the number of which the value of a prefix is a power.
func readRoot(s string) (int64, bool) {
	switch s {
	case "2":
		return 2, true
	case "10":
		return 10, true
	}
	return 0, false
}

// readExponent returns the exponent that s writes, or false if it may be none.
func readExponent(s string) (int, bool) {
	n, err := strconv.Atoi(s)
	// A number has one form only: without a plus, and without zeros before it.
	if err != nil || strconv.Itoa(n) != s || n < -api.MaxExp || n > api.MaxExp {
		return 0, false
	}
	return n, true
}

// readFraction returns the fraction that s writes, or false if there is none or
// it is too long.
func readFraction(s string) (rat.Q, bool) {
	if len(s) > maxFraction {
		return rat.Q{}, false
	}
	return rat.Parse(s)
}
