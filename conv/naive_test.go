package conv_test

import (
	"telamon/api"
	"telamon/level"
	"telamon/reduce"
	"telamon/sig"
	"telamon/term"
)

// naive asks as the chapter says it, by terms that are written out at each rule, each brought to its Whnf by itself. It gives up by a panic with an Errno.
type naive struct {
	s           *sig.Sig
	steps, most int
}

// second answers what Conv must tell, and how many steps all Whnfs took together; ErrFuel, if these would be more than most.
func second(s *sig.Sig, a, b api.Term, most int) (ok bool, steps int, e api.Errno) {
	n := &naive{s: s, most: most}
	defer func() {
		steps = n.steps
		if why := recover(); why != nil {
			ok, e = false, why.(api.Errno)
		}
	}()
	return n.asked(a, b), n.steps, api.OK
}

func must(t api.Term, e api.Errno) api.Term {
	if e != api.OK {
		panic(e)
	}
	return t
}

// whnf counts the steps by the least fuel that does: Whnf takes one for each.
func (n *naive) whnf(t api.Term) api.Term {
	if out, e := reduce.Whnf(n.s, t, 0); e != api.ErrFuel {
		return must(out, e)
	}
	left := n.most - n.steps
	out := must(reduce.Whnf(n.s, t, left))
	low, high := 1, 1
	enough := func(fuel int) bool {
		_, e := reduce.Whnf(n.s, t, fuel)
		return e == api.OK
	}
	for ; !enough(high); high *= 2 {
		low = high + 1
	}
	for low < high {
		if middle := (low + high) / 2; enough(middle) {
			high = middle
		} else {
			low = middle + 1
		}
	}
	n.steps += low
	return out
}

func (n *naive) asked(a, b api.Term) bool {
	a, b = n.whnf(a), n.whnf(b)
	switch {
	case a.Form == api.TLam || b.Form == api.TLam:
		return n.asked(body(a), body(b))
	case a.Form == api.TPair || b.Form == api.TPair:
		return n.asked(half(a, api.TFst), half(b, api.TFst)) && n.asked(half(a, api.TSnd), half(b, api.TSnd))
	}
	return n.ruled(a, b)
}

func body(t api.Term) api.Term {
	if t.Form == api.TLam {
		return t.Kids[1]
	}
	return app(must(term.Lift(t, 0, 1)), variable(0))
}

func half(t api.Term, form int) api.Term {
	if t.Form == api.TPair {
		return t.Kids[1+form-api.TFst]
	}
	return of(form, t)
}

// ruled goes by the rules but the first two.
func (n *naive) ruled(a, b api.Term) bool {
	if a.Form != b.Form {
		return false
	}
	switch a.Form {
	case api.TPi, api.TSigma:
		return n.asked(a.Kids[0], b.Kids[0]) && n.asked(a.Kids[1], b.Kids[1])
	case api.TSort:
		return level.Same(a.Levels[0], b.Levels[0])
	case api.TVar, api.TMeta:
		return a.N == b.N
	case api.TConst:
		if a.Name != b.Name || len(a.Levels) != len(b.Levels) {
			return false
		}
		for i := range a.Levels {
			if !level.Same(a.Levels[i], b.Levels[i]) {
				return false
			}
		}
		return true
	case api.TApp:
		return n.heads(a.Kids[0], b.Kids[0]) && n.asked(a.Kids[1], b.Kids[1])
	}
	return n.heads(n.whnf(a.Kids[0]), n.whnf(b.Kids[0]))
}

func (n *naive) heads(a, b api.Term) bool {
	if isRow(a) && isRow(b) {
		return n.ruled(a, b)
	}
	return n.asked(a, b)
}

func isRow(t api.Term) bool {
	return t.Form == api.TApp || t.Form == api.TFst || t.Form == api.TSnd
}
