package conv_test

import (
	"math/rand"
	"testing"

	"telamon/api"
	"telamon/conv"
	"telamon/sig"
	"telamon/term"
)

// maker makes terms at random, and others that are one with them, or nearly.
type maker struct{ *rand.Rand }

// any answers a term of about that many parts, in the scope of that many variables and of some more outside.
func (m maker) any(parts, scope int) api.Term {
	if parts <= 1 {
		return m.leaf(scope)
	}
	half, third := parts/2, parts/3
	switch m.Intn(12) {
	case 0:
		return of(api.TFst+m.Intn(2), m.any(parts-1, scope))
	case 1:
		return of(api.TPair, of(api.TSigma, m.leaf(scope), m.leaf(scope+1)), m.any(half, scope), m.any(half, scope))
	case 2:
		return of(api.TPi+m.Intn(2)*(api.TSigma-api.TPi), m.any(half, scope), m.any(half, scope+1))
	case 3, 4:
		return of(api.TLam, m.leaf(scope), m.any(parts-2, scope+1))
	case 5:
		return app(of(api.TLam, m.leaf(scope), m.any(half, scope+1)), m.any(half, scope))
	case 6:
		return app(c("plus"), m.any(half, scope), m.any(half, scope))
	case 7:
		return natElim(m.any(third, scope), m.any(third, scope), m.any(third, scope))
	case 8:
		return at("W.elim", zeros(1), m.leaf(scope), m.leaf(scope), m.leaf(scope), m.any(half, scope), m.detour(c("sup", m.leaf(scope), m.leaf(scope), m.leaf(scope), m.any(half, scope)), scope))
	}
	return app(m.any(half, scope), m.any(half, scope))
}

func (m maker) leaf(scope int) api.Term {
	leaves := []api.Term{meta(1), meta(2), set(), sort(param(1, 2)), c("a"), c("b"), c("f"), c("one"), c("plus"), at("id", zeros(1)), c("id"), at("type", []api.Level{{N: 3}, param(0, 1)}), at("k", zeros(2)), at("k", []api.Level{{}, {N: 1}}), c("suc"), c("zero"), c("Nat"), at("Nat.elim", zeros(1)), number(2)}
	if m.Intn(2) == 0 {
		return variable(m.Intn(scope + 2))
	}
	return leaves[m.Intn(len(leaves))]
}

// detour answers something that comes to t by steps, or by eta.
func (m maker) detour(t api.Term, scope int) api.Term {
	lifted, _ := term.Lift(t, 0, 1)
	switch m.Intn(8) {
	case 0:
		return by(t)
	case 1:
		return fst(pair(t, m.leaf(scope)))
	case 2:
		return app(of(api.TLam, m.leaf(scope), lifted), m.leaf(scope))
	case 3:
		return at("id", zeros(1), c("Nat"), t)
	case 4:
		return of(api.TLam, m.leaf(scope), app(lifted, variable(0)))
	case 5:
		return of(api.TPair, of(api.TSigma, m.leaf(scope), m.leaf(scope+1)), fst(t), snd(t))
	}
	return t
}

// twin answers t with a detour at one part in so many, and with other Hids.
func (m maker) twin(t api.Term, scope, seldom int) api.Term {
	kids := t.Kids
	t.Kids = nil
	for i, k := range kids {
		if i == 1 && (t.Form == api.TPi || t.Form == api.TLam || t.Form == api.TSigma) {
			t.Kids = append(t.Kids, m.twin(k, scope+1, seldom))
		} else if i == 0 && t.Form == api.TPair {
			t.Kids = append(t.Kids, k)
		} else {
			t.Kids = append(t.Kids, m.twin(k, scope, seldom))
		}
	}
	t.Hid = (t.Form == api.TPi || t.Form == api.TLam || t.Form == api.TApp) && m.Intn(3) == 0
	if m.Intn(seldom) == 0 {
		return m.detour(t, scope)
	}
	return t
}

// other answers t with another part in the place of one of so many leaves.
func (m maker) other(t api.Term, seldom int) api.Term {
	return mapped(t, func(x api.Term) api.Term {
		if len(x.Kids) == 0 && m.Intn(seldom) == 0 {
			return m.leaf(1)
		}
		return x
	})
}

// held holds Conv of a and b against the second reading, with all sorts of fuel; it answers what both told. A term that becomes too great may be told as ErrFuel, but where there is much.
func held(t *testing.T, s *sig.Sig, a, b api.Term, most int) (bool, api.Errno) {
	t.Helper()
	want, steps, e := second(s, a, b, most)
	enough, counted := 20*steps, e == api.OK
	if !counted {
		steps, enough = most, 20*most
	}
	got, e2 := conv.Conv(s, a, b, enough)
	if e == api.ErrFuel {
		want, e = got, e2
	}
	if got != want || e2 != e {
		t.Errorf("P801: %s and %s: %v, %v, not %v, %v", show(a), show(b), got, e2, want, e)
		return want, e
	}
	spent := true
	for fuel := 0; fuel < steps; fuel += 1 + steps/8 {
		got, e2 := conv.Conv(s, a, b, fuel)
		if e2 == api.ErrFuel && spent && !got {
			continue
		}
		spent = false
		if got != want || e2 != e {
			t.Errorf("P802: %s and %s: with %d of %d: %v, %v, not %v, %v", show(a), show(b), fuel, steps, got, e2, want, e)
		}
	}
	if got, e2 := conv.Conv(s, a, b, steps); counted && (got != want || e2 != e) {
		t.Errorf("P802: %s and %s: with %d, as many as the steps: %v, %v, not %v, %v", show(a), show(b), steps, got, e2, want, e)
	}
	return want, e
}

type outcome struct {
	one bool
	e   api.Errno
}

// atRandom holds that many pairs of terms against the second reading, and counts what was told.
func atRandom(t *testing.T, seed int64, terms, most int, next func(m maker) (a, b api.Term)) map[outcome]int {
	t.Helper()
	s, m := signature(t), maker{rand.New(rand.NewSource(seed))}
	count := map[outcome]int{}
	for range terms {
		a, b := next(m)
		if term.Check(a) != api.OK || term.Check(b) != api.OK {
			continue
		}
		one, e := held(t, s, a, b, most)
		count[outcome{one, e}]++
		if back, e2 := held(t, s, b, a, most); e == api.OK && e2 == api.OK && back != one {
			t.Errorf("P801: %s and %s: %v, but not the other way round", show(a), show(b), one)
		}
		if t.Failed() {
			break
		}
	}
	return count
}

func TestP801P802AtRandom(t *testing.T) {
	count := atRandom(t, 7, 400, 200, func(m maker) (a, b api.Term) {
		a = m.any(3+m.Intn(40), m.Intn(3))
		b = m.twin(a, 1, 2+m.Intn(10))
		if m.Intn(3) == 0 {
			b = m.other(b, 1+m.Intn(20))
		}
		return m.twin(a, 1, 8), b
	})
	if count[outcome{true, api.OK}] < 120 || count[outcome{false, api.OK}] < 100 {
		t.Errorf("too few: %v", count)
	}
}

// pure answers a term of about that many parts, most of which grow when they step: functions that double what they are given, great terms, great indices.
func (m maker) pure(parts, scope int) api.Term {
	if parts <= 1 {
		return m.pureLeaf(scope)
	}
	n := 1 + m.Intn(parts-1)
	switch m.Intn(7) {
	case 0, 1:
		return of(api.TLam, set(), m.pure(parts-1, scope+1))
	case 2:
		return app(of(api.TLam, set(), m.pure(n, scope+1)), m.pure(parts-n, scope))
	case 3:
		return of(api.TFst+m.Intn(2), m.pure(parts-1, scope))
	case 4:
		return pair(m.pure(n, scope), m.pure(parts-n, scope))
	}
	return app(m.pure(n, scope), m.pure(parts-n, scope))
}

func (m maker) pureLeaf(scope int) api.Term {
	if scope > 0 && m.Intn(6) > 0 {
		return variable(m.Intn(scope))
	}
	x, f, n := c("x"), c("f"), m.Intn(20)
	small := []api.Term{lam("x", app(x, x)), lam("x", app(x, x, x)), lam("f x", app(f, app(f, x))), lam("x", pair(x, x)), lam("x y", x), id(), lam("x", c("suc", x)), f, variable(1<<30 - 2), variable(1<<30 - 1), variable(1 << 30)}
	switch {
	case n < len(small):
		return small[n]
	case n < 13:
		return wide(401, variable(scope))
	case n < 14 && m.Intn(8) == 0:
		return wide(9999+2*m.Intn(5000), c("a"))
	case n < 17:
		return high(60, variable(1<<30-3))
	}
	return high(490+m.Intn(10), c("a"))
}

func TestP802LongAtRandom(t *testing.T) {
	count := atRandom(t, 8, 180, 60, func(m maker) (a, b api.Term) {
		a = m.pure(2+m.Intn(20), 0)
		return a, m.twin(a, 0, 4+m.Intn(20))
	})
	if count[outcome{true, api.OK}] < 70 || count[outcome{false, api.ErrLong}] < 7 || count[outcome{false, api.OK}] < 5 {
		t.Errorf("too few: %v", count)
	}
}
