package data_test

import (
	"testing"

	"telamon/api"
	"telamon/data"
	"telamon/elim"
	"telamon/kernel"
	"telamon/level"
	"telamon/sig"
	"telamon/tele"
	"telamon/term"
)

// naive reads the chapter once more, each call of the kernel by itself, and counts their steps. It gives up by a panic with an Errno.
type naive struct {
	s           *sig.Sig
	d           api.Decl
	steps, most int
}

// second answers what Check must tell, and how many steps all took together; ErrFuel, if these would be more than most.
func second(s *sig.Sig, d api.Decl, most int) (e api.Errno, steps int) {
	n := &naive{s: s, d: d, most: most}
	defer func() {
		steps = n.steps
		if why := recover(); why != nil {
			e = why.(api.Errno)
		}
	}()
	n.check()
	return api.OK, n.steps
}

func must(e api.Errno) {
	if e != api.OK {
		panic(e)
	}
}

// counted lets work have the least fuel that is enough for it.
func (n *naive) counted(work func(fuel int) api.Errno) {
	low, high := 0, 0
	for ; work(high) == api.ErrFuel; high = 2*high + 1 {
		if low = high + 1; low > n.most-n.steps {
			panic(api.ErrFuel)
		}
	}
	for low < high {
		if middle := (low + high) / 2; work(middle) == api.ErrFuel {
			low = middle + 1
		} else {
			high = middle
		}
	}
	n.steps += low
	must(work(low))
}

func (n *naive) sort(ctx []api.Term, t api.Term) api.Level {
	var l api.Level
	n.counted(func(fuel int) (e api.Errno) {
		l, e = kernel.Sort(n.s, n.d.Levels, ctx, t, fuel)
		return e
	})
	return l
}

func (n *naive) check() {
	must(n.s.Copy().Put(n.d))
	n.sort(nil, n.d.Type)
	switch n.d.Kind {
	case api.DDef:
		n.counted(func(fuel int) api.Errno { return kernel.Check(n.s, n.d.Levels, nil, n.d.Value, n.d.Type, fuel) })
	case api.DData:
		n.family()
	}
}

func (n *naive) family() {
	params, indices, sort, e := elim.Parts(n.d)
	must(e)
	n.s = n.s.Copy()
	empty := n.d
	empty.Ctors = nil
	must(n.s.Put(empty))
	for k, c := range n.d.Ctors {
		args, _, result, e := elim.Ctor(n.d, k)
		must(e)
		n.sort(nil, c.Type)
		for _, r := range result {
			if term.Has(r, n.d.Name) {
				panic(api.ErrPositive)
			}
		}
		ctx := params
		for i, a := range args {
			if !n.positive(a, i+len(params), len(params)+len(indices)) {
				panic(api.ErrPositive)
			}
			if !level.Leq(n.sort(ctx, a), sort) {
				panic(api.ErrUniverse)
			}
			ctx = append(ctx[:len(ctx):len(ctx)], a)
		}
	}
}

// positive reads an argument's type, which stands within deep variables: none of it has the family's name, or it is (zs) -> D params idx.
func (n *naive) positive(t api.Term, deep, whole int) bool {
	if !term.Has(t, n.d.Name) {
		return true
	}
	for ; t.Form == api.TPi; t = t.Kids[1] {
		if term.Has(t.Kids[0], n.d.Name) {
			return false
		}
		deep++
	}
	head, args, _ := tele.Spine(t)
	if head.Form != api.TConst || head.Name != n.d.Name || len(head.Levels) != n.d.Levels || len(args) != whole {
		return false
	}
	for i, l := range head.Levels {
		if !level.Same(l, param(i, 0)) {
			return false
		}
	}
	for i, a := range args {
		if i < n.d.Params && !term.Same(a, variable(deep-1-i)) || i >= n.d.Params && term.Has(a, n.d.Name) {
			return false
		}
	}
	return true
}

// held holds Check against the second reading, with all sorts of fuel; it answers what both told.
func held(t *testing.T, s *sig.Sig, d api.Decl, most int) api.Errno {
	t.Helper()
	e, steps := second(s, d, most)
	if e == api.ErrFuel {
		return e
	}
	for _, fuel := range []int{steps, steps + 1, 20 * steps, much} {
		if got := data.Check(s, d, fuel); got != e {
			t.Errorf("P1001: %s: with %d, enough for %d steps: %v, not %v", showDecl(d), fuel, steps, got, e)
		}
	}
	spent := true
	for fuel := -1; fuel < steps; fuel += 1 + steps/8 {
		got := data.Check(s, d, fuel)
		spent = spent && got == api.ErrFuel
		if got != e && !spent {
			t.Errorf("P1003: %s: with %d of %d: %v, not %v", showDecl(d), fuel, steps, got, e)
		}
	}
	return e
}

func showDecl(d api.Decl) string {
	out := d.Name + " : " + show(d.Type)
	if d.Kind == api.DDef {
		out += " = " + show(d.Value)
	}
	for _, k := range d.Ctors {
		out += "; " + k.Name + " : " + show(k.Type)
	}
	return out
}
