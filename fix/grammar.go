package fix

import (
	"slices"

	"telamon/api"
)

// Kinds of operators, by where operands stand and how those of the same N go together.
const (
	closed     = iota // no operand
	prefix            // one behind
	postfix           // one ahead
	infix             // two
	infixLeft         // two, and the one ahead may be of the same N
	infixRight        // two, and the one behind may be of the same N
)

type operator struct {
	api.Op
	kind int
}

// part is what a grammar knows of a name that is a part of operators: those that begin with it.
type part struct{ begins []*operator }

// grammar is operators by their parts.
type grammar struct{ *rows[part] }

func newGrammar(ops []api.Op) *grammar {
	g := &grammar{newRows[part]()}
	for _, op := range ops {
		for _, name := range op.Parts {
			g.begin(name)
		}
		if len(op.Parts) > 0 { // an operator of no part stands nowhere
			first := g.find(op.Parts[0])
			first.begins = append(first.begins, &operator{op, kindOf(op)})
		}
	}
	return g
}

func kindOf(op api.Op) int {
	switch {
	case op.Left && op.Right && op.Assoc == "l":
		return infixLeft
	case op.Left && op.Right && op.Assoc == "r":
		return infixRight
	case op.Left && op.Right:
		return infix
	case op.Left:
		return postfix
	case op.Right:
		return prefix
	}
	return closed
}

func (g *grammar) isPart(x api.Exp) bool { return x.Form == api.XName && g.find(x.Name) != nil }

// mostParts: how many parts may stand side by side.
const mostParts = 60

// meaningOf is the one thing that the parts of x mean, if there is one.
func (g *grammar) meaningOf(x api.Exp) (api.Exp, fault) {
	if len(x.Kids) > mostParts {
		return api.Exp{}, fault{x.At, api.ErrLong}
	}
	r := newRow(g, x.Kids)
	l := r.form(0, len(x.Kids))
	if len(l) != 1 {
		return api.Exp{}, fault{x.At, api.ErrOperator}
	}
	return r.written(l[0]), fault{}
}

// operatorsOf is the operators all parts of which are among those places; what binds tighter stands first.
func (g *grammar) operatorsOf(names []string, places map[string][]int) []*operator {
	var l []*operator
	for _, name := range names {
		for _, op := range g.find(name).begins {
			if !slices.ContainsFunc(op.Parts, func(p string) bool { return len(places[p]) == 0 }) {
				l = append(l, op)
			}
		}
	}
	slices.SortStableFunc(l, tighter)
	return l
}
