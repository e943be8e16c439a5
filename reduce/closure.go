package reduce

import (
	"iter"
	"slices"

	"telamon/api"
)

// env is what the binders around a part stand for, the innermost first.
type env struct {
	inner *slot
	count int
}

type slot struct {
	cell  *cell
	outer *slot
}

// with answers the env within one binder more.
func (e env) with(c *cell) env { return env{&slot{c, e.inner}, e.count + 1} }

// find answers what the variable of that index stands for: nil, if it is bound by none of these binders.
func (e env) find(index int) *cell {
	if index < 0 || index >= e.count {
		return nil
	}
	s := e.inner
	for range index {
		s = s.outer
	}
	return s.cell
}

// closure is a part of a term with what its variables stand for.
type closure struct {
	env
	code *part
}

// cell is a closure whose weak head normal form is found once, whoever asks; it stays what it was beside that, for it may have to be written as it stood.
type cell struct {
	closure
	weight
	value  *value // nil: not found yet
	peak   weight // how great the terms on the way to the value were at the most
	normal *normalForm
	number int // 0: nobody has asked yet
}

func newCell(c closure) *cell { return &cell{closure: c, weight: c.weigh()} }

// variable answers a cell of a variable of its own, within that many binders.
func variable(deep int) *cell {
	p := read(api.Term{Form: api.TVar, N: -1 - deep}) // an index that no term has: it is 0 behind its own binder
	c := newCell(closure{code: p})
	c.own = deep + 1
	return c
}

// kid answers the cell of the code's kid of that place.
func (c closure) kid(i int) *cell { return closure{c.env, c.code.kids[i]}.cell() }

// cell answers the closure's cell; a variable's is the one that it stands for.
func (c closure) cell() *cell {
	if c.code.Form == api.TVar {
		if found := c.find(c.code.N); found != nil {
			return found
		}
	}
	if c.code.free == 0 {
		c.env = env{} // lest it keep what it does not need
	}
	return newCell(c)
}

// head is what stands at the head of a row; of a TFst or TSnd that was looked at also what is projected.
type head struct {
	closure
	of *cell
}

// inner answers the cell of the head's kid of that place; one that is bound is told in the scope of a new variable, within so many others.
func (h head) inner(i, deep int) *cell {
	if h.of != nil {
		return h.of
	}
	if binders(h.code.Form, i) == 0 {
		return h.kid(i)
	}
	return closure{h.env.with(variable(deep)), h.code}.kid(i)
}

// value is a weak head normal form.
type value struct {
	head
	args *row
	kids kids
}

// row is arguments, the first one first, and what they and all behind them add to a head.
type row struct {
	arg  *cell
	hid  bool
	rest *row
	load load
}

// whole answers the load of r, which may be nil: a row of none.
func (r *row) whole() load {
	if r == nil {
		return load{}
	}
	return r.load
}

// with answers the row with one argument more ahead of all.
func (r *row) with(arg *cell, hid bool) *row {
	return &row{arg, hid, r, load{1, arg.size + 1}.and(r.whole())}
}

// all goes through the row, from the first argument on.
func (r *row) all() iter.Seq[*row] {
	return func(yield func(*row) bool) {
		for ; r != nil && yield(r); r = r.rest {
		}
	}
}

// from answers the row from the argument of that place on: nil, if there are fewer.
func (r *row) from(place int) *row {
	for ; r != nil && place > 0; place-- {
		r = r.rest
	}
	return r
}

// ahead answers the arguments of r with those of rest behind them.
func (r *row) ahead(rest *row) *row {
	if rest == nil {
		return r
	}
	for _, a := range slices.Backward(slices.Collect(r.all())) {
		rest = rest.with(a.arg, a.hid)
	}
	return rest
}
