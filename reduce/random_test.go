package reduce_test

import (
	"math/rand"
	"testing"

	"telamon/api"
	"telamon/reduce"
	"telamon/sig"
	"telamon/term"
)

// maker makes terms at random, most of which have steps.
type maker struct {
	*rand.Rand
	families []api.Decl
}

// any answers a term of about that many parts, in the scope of that many variables and of some more outside.
func (m maker) any(parts, scope int) api.Term {
	if parts <= 1 {
		return m.leaf(scope)
	}
	half, quarter := parts/2, parts/4
	var t api.Term
	switch m.Intn(12) {
	case 0:
		t = of(api.TFst+m.Intn(2), m.any(parts-1, scope))
	case 1:
		t = of(api.TFst+m.Intn(2), m.detour(m.pair(quarter, scope), quarter, scope))
	case 2:
		t = m.pair(parts/3, scope)
	case 3:
		t = of(api.TPi+m.Intn(2)*(api.TSigma-api.TPi), m.any(half, scope), m.any(half, scope+1))
	case 4, 5:
		t = m.detour(m.any(half, scope), half, scope)
	case 6:
		t = m.lambdas(1+m.Intn(2), half, scope)
	case 7, 8, 9:
		return m.eliminator(parts, scope)
	case 10:
		t = app(c("plus"), m.any(half, scope), m.any(half, scope))
	default:
		t = app(m.any(half, scope), m.any(half, scope))
	}
	t.Hid = (t.Form == api.TApp || t.Form == api.TLam || t.Form == api.TPi) && m.Intn(3) == 0
	return t
}

func (m maker) leaf(scope int) api.Term {
	leaves := []api.Term{meta(2), set(), sort(param(1, 2)), c("a"), c("f"), c("one"), c("plus"), at("id", own(1)), at("id", zeros(1)), c("id"), c("twice"), at("two", own(2)), at("two", []api.Level{{N: 3}, param(4, 4)}), c("suc"), c("zero"), c("Nat"), c("leaf"), at("Nat.elim", zeros(1)), c("unknown"), number(2)}
	if m.Intn(2) == 0 {
		return variable(m.Intn(scope + 2))
	}
	return leaves[m.Intn(len(leaves))]
}

func (m maker) pair(parts, scope int) api.Term {
	s := of(api.TSigma, m.any(parts/2, scope), m.any(parts/2, scope+1))
	return of(api.TPair, s, m.any(parts, scope), m.any(parts, scope))
}

// detour answers something that comes to t by steps.
func (m maker) detour(t api.Term, parts, scope int) api.Term {
	switch m.Intn(5) {
	case 0:
		return app(id(), t)
	case 1:
		return fst(of(api.TPair, of(api.TSigma, set(), set()), t, m.any(parts, scope)))
	case 2:
		lifted, _ := term.Lift(t, 0, 1)
		return app(of(api.TLam, m.any(parts/3, scope), lifted), m.any(parts, scope))
	case 3:
		return app(at("id", zeros(1)), c("Nat"), t)
	}
	return t
}

func (m maker) lambdas(n, parts, scope int) api.Term {
	if n == 0 {
		return m.any(parts, scope)
	}
	return of(api.TLam, m.any(parts/4, scope), m.lambdas(n-1, parts, scope+1))
}

// eliminator answers a row of an eliminator, most often with an x that comes to a constructor, seldom with a fault.
func (m maker) eliminator(parts, scope int) api.Term {
	d := m.families[m.Intn(len(m.families))]
	indices := count(d.Type) - d.Params
	each := parts / (d.Params + indices + len(d.Ctors) + 3)
	levels := d.Levels + 1
	if m.Intn(20) == 0 {
		levels--
	}
	t := at(d.Name+".elim", zeros(levels))
	if m.Intn(2) == 0 {
		t = at(d.Name+".elim", own(levels))
	}
	for range d.Params {
		t = app(t, m.any(each, scope))
	}
	t = app(t, m.lambdas(m.Intn(2), each, scope))
	for _, k := range d.Ctors {
		t = app(t, m.lambdas(m.Intn(2*count(k.Type)+2), each, scope))
	}
	for range indices {
		t = app(t, m.any(each, scope))
	}
	if m.Intn(20) > 0 {
		t = app(t, m.detour(m.built(d, each, scope), each, scope))
	}
	if m.Intn(4) == 0 {
		t = app(t, m.any(each, scope))
	}
	return t
}

// count is how many TPis a type begins with.
func count(t api.Term) int {
	n := 0
	for ; t.Form == api.TPi; t = t.Kids[1] {
		n++
	}
	return n
}

func (m maker) built(d api.Decl, parts, scope int) api.Term {
	if len(d.Ctors) == 0 || m.Intn(10) == 0 {
		return m.any(parts, scope)
	}
	k := d.Ctors[m.Intn(len(d.Ctors))]
	n := count(k.Type)
	if m.Intn(20) == 0 {
		n++
	}
	t := at(k.Name, zeros(d.Levels))
	for range n {
		arg := m.any(parts/2, scope)
		if m.Intn(2) == 0 && parts > 2 {
			arg = m.lambdas(m.Intn(3), 0, scope)
			arg = m.detour(arg, parts/2, scope)
		}
		if m.Intn(3) == 0 && parts > 2 {
			arg = m.built(d, parts-2, scope)
		}
		t = app(t, arg)
	}
	return t
}

// held holds Whnf and Normal of x against the second reading, with all sorts of fuel; it answers what both told.
func held(t *testing.T, s *sig.Sig, x api.Term, normal bool, most int) api.Errno {
	t.Helper()
	call := reduce.Whnf
	if normal {
		call = reduce.Normal
	}
	want, steps, e := second(s, x, normal, most)
	if e == api.ErrFuel {
		steps = most
	}
	got, e2 := call(s, x, 20*steps)
	if e == api.ErrFuel {
		again, e3 := call(s, x, 2*steps)
		if e3 != api.ErrFuel && (e3 != e2 || !sameTerm(got, again)) {
			t.Errorf("P702: %s: %v with more fuel, %v with less", show(x), e2, e3)
		}
		return e
	}
	if e2 != e || !sameTerm(got, want) {
		t.Errorf("P701: %s: %s, %v, not %s, %v", show(x), show(got), e2, show(want), e)
		return e
	}
	isMonotone(t, s, x, normal, steps, want, e)
	return e
}

// isMonotone fails, if less fuel than the steps tells anything but ErrFuel or the answer, if ErrFuel comes back with more, or if the steps do not do.
func isMonotone(t *testing.T, s *sig.Sig, x api.Term, normal bool, steps int, want api.Term, e api.Errno) {
	t.Helper()
	call := reduce.Whnf
	if normal {
		call = reduce.Normal
	}
	told := false
	for fuel := 0; fuel <= steps; fuel += 1 + steps/8 {
		got, e2 := call(s, x, fuel)
		if e2 == api.ErrFuel {
			if told || !sameTerm(got, api.Term{}) {
				t.Errorf("P702: %s: ErrFuel with %d, not with less: %s", show(x), fuel, show(got))
			}
			continue
		}
		told = true
		if e2 != e || !sameTerm(got, want) {
			t.Errorf("P702: %s: with %d: %s, %v, not %s, %v", show(x), fuel, show(got), e2, show(want), e)
		}
	}
	if got, e2 := call(s, x, steps); e2 != e || !sameTerm(got, want) {
		t.Errorf("P702: %s: with %d, as many as the steps: %s, %v", show(x), steps, show(got), e2)
	}
}

// sameTerm is term.Same, or both are the zero term.
func sameTerm(a, b api.Term) bool {
	return a.Form == 0 && len(a.Kids) == 0 && b.Form == 0 && len(b.Kids) == 0 || term.Same(a, b)
}

// pure answers a term of about that many parts, most of which grow when they step: functions that double what they are given, great terms, great indices.
func (m maker) pure(parts, scope int) api.Term {
	if parts <= 1 {
		return m.pureLeaf(scope)
	}
	n := 1 + m.Intn(parts-1)
	switch m.Intn(6) {
	case 0:
		return of(api.TLam, set(), m.pure(parts-1, scope+1))
	case 1:
		return app(of(api.TLam, set(), m.pure(n, scope+1)), m.pure(parts-n, scope))
	case 2:
		return of(api.TFst+m.Intn(2), m.pure(parts-1, scope))
	case 3:
		return natElim(m.pure(n, scope), m.pure(n, scope), m.pure(parts-n, scope))
	}
	return app(m.pure(n, scope), m.pure(parts-n, scope))
}

func (m maker) pureLeaf(scope int) api.Term {
	if scope > 0 && m.Intn(6) > 0 {
		return variable(m.Intn(scope))
	}
	x, f := c("x"), c("f")
	leaves := []api.Term{lam("x", set(), app(x, x)), lam("x", set(), app(x, x, x)), lam("f x", set(), app(f, app(f, x))), lam("x", set(), pair(x, x)), lam("x y", set(), x), id(), lam("x", set(), c("suc", x)), f, wide(101, c("a")), wide(1001, variable(scope)), high(60, variable(1<<30-3)), variable(1<<30 - 9)}
	return leaves[m.Intn(len(leaves))]
}

// atRandom holds that many terms against the second reading, and fails, if there are fewer than least that come to an end.
func atRandom(t *testing.T, seed int64, terms, least, most int, next func(m maker) api.Term) map[api.Errno]int {
	t.Helper()
	s := signature(t)
	m := maker{rand.New(rand.NewSource(seed)), []api.Decl{nat(), nat(), vec(), eq(), bot(), w(), acc(), tree(), lev()}}
	told := map[api.Errno]int{}
	for range terms {
		x := next(m)
		if term.Check(x) != api.OK {
			continue
		}
		told[held(t, s, x, false, most)]++
		told[held(t, s, x, true, most)]++
		if t.Failed() {
			break
		}
	}
	if told[api.OK] < least {
		t.Errorf("too few: %v", told)
	}
	return told
}

func TestP701P702AtRandom(t *testing.T) {
	atRandom(t, 7, 1200, 2000, 400, func(m maker) api.Term { return m.any(4+m.Intn(120), m.Intn(3)) })
}

func TestP702LongAtRandom(t *testing.T) {
	told := atRandom(t, 8, 160, 200, 200, func(m maker) api.Term { return m.pure(4+m.Intn(30), 0) })
	if told[api.ErrLong] < 3 || told[api.ErrFuel] < 3 {
		t.Errorf("%v", told)
	}
}
