package kernel

import (
	"telamon/api"
	"telamon/reduce"
)

// context is the variables that a term stands within, and the list of their types.
type context struct {
	reduce.Scope
	list
}

// list is types, the last one first: contexts within others share what is ahead.
type list struct{ last *entry }

// entry is the type of a variable: told is asked once.
type entry struct {
	told  func() reduce.Cell
	known bool
	cell  reduce.Cell
	ahead list
}

func (l list) with(told func() reduce.Cell) list { return list{&entry{told: told, ahead: l}} }

// back answers the type that so many stand behind.
func (l list) back(n int) reduce.Cell {
	for range n {
		l = l.last.ahead
	}
	return l.last.ask()
}

func (e *entry) ask() reduce.Cell {
	if !e.known {
		e.cell, e.known = e.told(), true
	}
	return e.cell
}

// open answers the context of one variable more, whose type is read when somebody asks for it: most of a great context may be asked for by nobody.
func (c context) open(ty api.Term) context {
	return context{c.Scope.With(), c.list.with(func() reduce.Cell { return c.Cell(ty) })}
}

// bind answers the context of one variable more, of that type.
func (c context) bind(ty reduce.Cell) context {
	return context{c.Scope.With(), c.list.with(func() reduce.Cell { return ty })}
}

// typeOf answers the type of the variable of that place, from the outermost on.
func (c context) typeOf(place int) reduce.Cell { return c.back(c.Deep() - 1 - place) }
