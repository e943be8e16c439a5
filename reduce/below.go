package reduce

import (
	"slices"

	"telamon/api"
	"telamon/sig"
)

// What stands here is for the packages below that hold terms against each other, or judge them: they see weak head normal forms that nobody writes out, of as many terms as they like, with one fuel for all. A machine that gives up does so by a panic, out to Try.

// Machine finds weak head normal forms; what was found once it does not look for again.
type Machine struct{ *machine }

// Cell is a term that a Machine keeps.
type Cell struct{ *cell }

// Value is the weak head normal form of one.
type Value struct{ *value }

// Scope is new variables that terms stand within, one within the other.
type Scope struct{ env }

// With answers the scope of one variable more.
func (s Scope) With() Scope { return Scope{s.with(variable(s.count))} }

// Deep answers how many variables there are.
func (s Scope) Deep() int { return s.count }

// Cell keeps a term that term.Check takes, in whose scope the variables stand: the last one is its index 0.
func (s Scope) Cell(t api.Term) Cell { return Cell{closure{s.env, read(t)}.cell()} }

// NewMachine answers a Machine that has that fuel.
func NewMachine(s *sig.Sig, fuel int) Machine { return Machine{newMachine(s, fuel)} }

// Left answers the fuel that is left.
func (m Machine) Left() int { return m.fuel }

// Limit gives up, if c, within so many new variables, is more than term.Check takes.
func (m Machine) Limit(c Cell, deep int) {
	m.deep = deep
	m.limit(c.weight)
}

// Number answers a number that c alone has.
func (m Machine) Number(c Cell) int {
	if c.number == 0 {
		m.numbers++
		c.number = m.numbers
	}
	return c.number
}

// Pi answers the TPi of a domain that stands in the scope, and of a codomain that stands within one variable more. Where that has the variable, it must be written out; else both are kept as they are.
func (s Scope) Pi(hid bool, domain, codomain Cell) Cell {
	outer := api.Term{Form: api.TVar, N: 1}
	t := api.Term{Form: api.TPi, Hid: hid, Kids: []api.Term{outer, outer}}
	if codomain.own <= s.count {
		return Cell{newCell(closure{env{}.with(domain.cell).with(codomain.cell), read(t)})}
	}
	t.Kids = []api.Term{domain.Written(s.count), codomain.Written(s.count + 1)}
	return s.Cell(t)
}

// Stands answers what c is as it stands, without its kids.
func (c Cell) Stands() api.Term { return c.code.Term }

// Variable answers which of its scope's variables c is, from the outermost on; false, if it is none.
func (c Cell) Variable() (int, bool) {
	return -1 - c.code.N, c.code.Form == api.TVar && c.code.N < 0
}

// Part answers the kid of that place of c as it stands; one that is bound is told in the scope of a new variable, within so many others.
func (c Cell) Part(i, deep int) Cell { return Cell{head{closure: c.closure}.inner(i, deep)} }

// Written answers c as it stands, within so many new variables, as a term.
func (c Cell) Written(deep int) api.Term { return c.written(c.code, 0, deep) }

// Filled answers the second kid of c, which is bound, with x put in.
func (c Cell) Filled(x Cell) Cell { return Cell{closure{c.with(x.cell), c.code}.kid(1)} }

// Numbered tells whether anybody has asked for the number of c.
func (c Cell) Numbered() bool { return c.number > 0 }

// Value answers the weak head normal form of c, which stands within so many new variables.
func (m Machine) Value(c Cell, deep int) Value {
	m.deep = deep
	return Value{m.valueOf(c.cell)}
}

// Form answers the form of v.
func (v Value) Form() int {
	if v.args != nil {
		return api.TApp
	}
	return v.code.Form
}

// Head answers the head of v, a row or not, without its kids. A variable's N is its index outside of all new variables; a new one's is below 0, another one for each.
func (v Value) Head() api.Term {
	t := v.code.Term
	if t.Form == api.TVar {
		t.N -= v.count
	}
	return t
}

// Args answers the arguments of v.
func (v Value) Args() []Cell {
	var out []Cell
	for a := range v.args.all() {
		out = append(out, Cell{a.arg})
	}
	return out
}

// First answers v with the first n of its arguments alone.
func (v Value) First(n int) Cell {
	var row *row
	for _, a := range slices.Backward(slices.Collect(v.args.all())[:n]) {
		row = row.with(a.arg, a.hid)
	}
	return Value{&value{head: v.head, args: row}}.kept()
}

// kids is the kids of a value that were asked for, one that has the variable that it binds in the scope of a new one within so many others.
type kids struct {
	cells [3]*cell
	deep  int
}

// Kid answers the kid of that place of v, which is no row of arguments; one that is bound is told in the scope of a new variable, within so many others.
func (v Value) Kid(i, deep int) Cell {
	if v.code.hangs(i) && v.kids.deep != deep {
		v.kids.cells[i], v.kids.deep = nil, deep
	}
	if v.kids.cells[i] == nil {
		v.kids.cells[i] = v.inner(i, deep)
	}
	return Cell{v.kids.cells[i]}
}

// Filled answers the second kid of v, which is bound, with x put in; where that makes no difference, the same one for all.
func (v Value) Filled(x Cell) Cell {
	if !v.code.hangs(1) {
		return v.Kid(1, 0)
	}
	return Cell{closure{v.with(x.cell), v.code}.kid(1)}
}

// Applied answers v applied to a new variable, within so many others.
func (v Value) Applied(deep int) Cell {
	f := api.Term{Form: api.TApp, Kids: []api.Term{{Form: api.TVar, N: 1}, {Form: api.TVar, N: 0}}}
	return Cell{newCell(closure{env{}.with(v.kept().cell).with(variable(deep)), read(f)})}
}

// Projected answers TFst or TSnd of v.
func (v Value) Projected(form int) Cell { return v.kept().Projected(form) }

// Projected answers TFst or TSnd of c.
func (c Cell) Projected(form int) Cell {
	p := api.Term{Form: form, Kids: []api.Term{{Form: api.TVar, N: 0}}}
	return Cell{newCell(closure{env{}.with(c.cell), read(p)})}
}

// kept answers a cell whose value is known. It can be weighed, but is nothing that stood anywhere: it is not to be written.
func (v Value) kept() Cell {
	w := v.weigh()
	return Cell{&cell{closure: v.closure, weight: w, value: v.value, peak: w}}
}

// weigh answers how great the value would be, written out as it stands.
func (v Value) weigh() weight {
	w := v.closure.weigh()
	for a := range v.args.all() {
		w = weight{w.size + 1 + a.arg.size, max(w.high, a.arg.high) + 1, max(w.reach, a.arg.reach), max(w.own, a.arg.own)}
	}
	return w
}
