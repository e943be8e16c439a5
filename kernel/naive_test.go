package kernel_test

import (
	"telamon/api"
	"telamon/conv"
	"telamon/elim"
	"telamon/level"
	"telamon/reduce"
	"telamon/sig"
	"telamon/term"
)

// naive judges as the chapter says it, by terms that are written out at each rule, each Whnf and each Conv by itself. It gives up by a panic with an Errno.
type naive struct {
	s           *sig.Sig
	levels      int
	steps, most int
}

// second answers what Infer must tell, and how many steps all took together; ErrFuel, if these would be more than most.
func second(s *sig.Sig, levels int, ctx []api.Term, t api.Term, most int) (out api.Term, steps int, e api.Errno) {
	n := &naive{s: s, levels: levels, most: most}
	defer func() {
		steps = n.steps
		if why := recover(); why != nil {
			out, e = api.Term{}, why.(api.Errno)
		}
	}()
	return n.infer(ctx, t), n.steps, api.OK
}

func must[T any](t T, e api.Errno) T {
	if e != api.OK {
		panic(e)
	}
	return t
}

// counted answers what work tells with the fuel that is left, and counts its steps by the least fuel that does.
func counted[T any](n *naive, work func(fuel int) (T, api.Errno)) T {
	enough := func(fuel int) bool {
		_, e := work(fuel)
		return e != api.ErrFuel
	}
	left := n.most - n.steps
	low, high := 0, 0
	for ; !enough(high); high = 2*high + 1 {
		if low = high + 1; low > left {
			panic(api.ErrFuel)
		}
	}
	for low < high {
		if middle := (low + high) / 2; enough(middle) {
			high = middle
		} else {
			low = middle + 1
		}
	}
	n.steps += low
	return must(work(low))
}

func (n *naive) whnf(t api.Term) api.Term {
	return counted(n, func(fuel int) (api.Term, api.Errno) { return reduce.Whnf(n.s, t, fuel) })
}

// inferred is the Whnf of the type, which must be of that form.
func (n *naive) inferred(ctx []api.Term, t api.Term, form int, e api.Errno) api.Term {
	ty := n.whnf(n.infer(ctx, t))
	if ty.Form != form {
		panic(e)
	}
	return ty
}

func (n *naive) sort(ctx []api.Term, t api.Term) api.Level {
	return n.inferred(ctx, t, api.TSort, api.ErrSort).Levels[0]
}

func (n *naive) check(ctx []api.Term, t, ty api.Term) {
	own := n.infer(ctx, t)
	if !counted(n, func(fuel int) (bool, api.Errno) { return conv.Conv(n.s, own, ty, fuel) }) {
		panic(api.ErrType)
	}
}

// long refuses a type that term.Check does not take.
func long(t api.Term) api.Term {
	if term.Check(t) != api.OK {
		panic(api.ErrLong)
	}
	return t
}

func (n *naive) known(all ...api.Level) {
	for _, l := range all {
		if level.Bound(l) > max(n.levels, 0) {
			panic(api.ErrLevels)
		}
	}
}

func (n *naive) infer(ctx []api.Term, t api.Term) api.Term {
	within := func() []api.Term { return append(ctx[:len(ctx):len(ctx)], t.Kids[0]) }
	switch t.Form {
	case api.TVar:
		if t.N >= len(ctx) {
			panic(api.ErrVar)
		}
		return must(term.Lift(ctx[len(ctx)-1-t.N], 0, t.N+1))
	case api.TSort:
		n.known(t.Levels...)
		return sort(must(level.Suc(t.Levels[0], 1)))
	case api.TPi, api.TSigma:
		a := n.sort(ctx, t.Kids[0])
		return sort(must(level.Max(a, n.sort(within(), t.Kids[1]))))
	case api.TLam:
		n.sort(ctx, t.Kids[0])
		return long(api.Term{Form: api.TPi, Hid: t.Hid, Kids: []api.Term{t.Kids[0], n.infer(within(), t.Kids[1])}})
	case api.TApp:
		f := n.inferred(ctx, t.Kids[0], api.TPi, api.ErrPi)
		n.check(ctx, t.Kids[1], f.Kids[0])
		return must(term.Subst(f.Kids[1], 0, t.Kids[1]))
	case api.TPair:
		n.sort(ctx, t.Kids[0])
		n.check(ctx, t.Kids[1], t.Kids[0].Kids[0])
		n.check(ctx, t.Kids[2], must(term.Subst(t.Kids[0].Kids[1], 0, t.Kids[1])))
		return t.Kids[0]
	case api.TFst:
		return n.inferred(ctx, t.Kids[0], api.TSigma, api.ErrSigma).Kids[0]
	case api.TSnd:
		s := n.inferred(ctx, t.Kids[0], api.TSigma, api.ErrSigma)
		return must(term.Subst(s.Kids[1], 0, fst(t.Kids[0])))
	case api.TConst:
		ty := must(n.constant(t.Name, t.Levels))
		n.known(t.Levels...)
		return ty
	}
	panic(api.ErrForm)
}

func (n *naive) constant(name string, by []api.Level) (api.Term, api.Errno) {
	d, kind := n.s.Get(name)
	ty, many := d.Type, d.Levels
	switch {
	case kind == 0:
		return api.Term{}, api.ErrConst
	case kind == 5:
		many++
	case kind >= 4:
		ty = d.Ctors[(kind-4)/2].Type
	}
	if len(by) != many {
		return api.Term{}, api.ErrLevels
	}
	if kind == 5 {
		ty = must(elim.Type(d))
	}
	return term.Levels(ty, by)
}
