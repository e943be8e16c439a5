package kernel_test

import (
	"math/rand"
	"testing"

	"telamon/api"
	"telamon/conv"
	"telamon/kernel"
	"telamon/sig"
	"telamon/term"
)

func sameOrNone(a, b api.Term) bool {
	return term.Same(a, b) || a.Form == 0 && b.Form == 0
}

// held holds Infer against the second reading, with all sorts of fuel; it answers what both told. A type that becomes too great may be told as ErrFuel, but where there is much.
func held(t *testing.T, s *sig.Sig, levels int, ctx []api.Term, x api.Term, most int) (api.Term, api.Errno) {
	t.Helper()
	want, steps, e := second(s, levels, ctx, x, most)
	counted := e != api.ErrFuel && e != api.ErrLong
	if !counted {
		steps = most
	}
	got, e2 := kernel.Infer(s, levels, ctx, x, 20*steps)
	if e == api.ErrFuel {
		want, e = got, e2
	}
	if !sameOrNone(got, want) || e2 != e {
		t.Errorf("P902: %v: %s: %s, %v, not %s, %v", shows(ctx), show(x), show(got), e2, show(want), e)
		return want, e
	}
	spent := true
	for fuel := 0; fuel < steps; fuel += 1 + steps/8 {
		got, e2 := kernel.Infer(s, levels, ctx, x, fuel)
		if e2 == api.ErrFuel && spent && got.Form == 0 {
			continue
		}
		spent = false
		if !sameOrNone(got, want) || e2 != e {
			t.Errorf("P903: %v: %s: with %d of %d: %s, %v, not %s, %v", shows(ctx), show(x), fuel, steps, show(got), e2, show(want), e)
		}
	}
	if got, e2 := kernel.Infer(s, levels, ctx, x, steps); counted && (!sameOrNone(got, want) || e2 != e) {
		t.Errorf("P903: %v: %s: with %d, as many as the steps: %s, %v, not %s, %v", shows(ctx), show(x), steps, show(got), e2, show(want), e)
	}
	return want, e
}

// atRandom holds that many terms against the second reading, and counts what was told.
func atRandom(t *testing.T, seed int64, terms, levels, most int, next func(m maker) ([]api.Term, api.Term)) map[api.Errno]int {
	t.Helper()
	s := signature(t, axiom("Q", 0, set(0)))
	m := maker{rand.New(rand.NewSource(seed)), s}
	count := map[api.Errno]int{}
	for range terms {
		ctx, x := next(m)
		if term.Check(x) != api.OK || t.Failed() {
			continue
		}
		_, e := held(t, s, levels, ctx, x, most)
		count[e]++
	}
	return count
}

// few fails, if one of these was told less often than it should be.
func few(t *testing.T, count, least map[api.Errno]int) {
	t.Helper()
	for e, n := range least {
		if count[e] < n {
			t.Errorf("too few: %v", count)
			return
		}
	}
}

// Terms that are made to have a type have just that.
func TestP902P903AtRandom(t *testing.T) {
	count := atRandom(t, 1, 700, 0, 2000, func(m maker) ([]api.Term, api.Term) {
		ctx := m.context(m.Intn(5))
		ty := m.anyType(ctx, 1+m.Intn(12))
		x := m.term(ctx, ty, 1+m.Intn(30))
		if e := kernel.Check(m.s, 0, ctx, x, ty, much); e != api.OK {
			t.Errorf("P902: %v: %s is not of the type %s: %v", shows(ctx), show(x), show(ty), e)
		}
		return ctx, x
	})
	few(t, count, map[api.Errno]int{api.OK: 690})
}

func TestP902SpoiltAtRandom(t *testing.T) {
	count := atRandom(t, 2, 2000, 2, 1000, func(m maker) ([]api.Term, api.Term) {
		ctx := m.context(m.Intn(4))
		x := m.term(ctx, m.anyType(ctx, 1+m.Intn(8)), 1+m.Intn(20))
		if m.Intn(4) == 0 && len(ctx) > 0 {
			i := m.Intn(len(ctx))
			ctx[i] = m.spoilt(ctx[i])
		}
		for range 1 + m.Intn(2) {
			x = m.spoilt(x)
		}
		return ctx, x
	})
	few(t, count, map[api.Errno]int{api.OK: 100, api.ErrForm: 40, api.ErrVar: 40, api.ErrConst: 40, api.ErrLevels: 100, api.ErrPi: 100, api.ErrSigma: 100, api.ErrSort: 100, api.ErrType: 200})
}

func TestP903LongAtRandom(t *testing.T) {
	count := atRandom(t, 3, 120, 0, 50, func(m maker) ([]api.Term, api.Term) {
		var ctx []api.Term
		for range 1 + m.Intn(3) {
			ctx = append(ctx, m.greatType(m.Intn(2)))
		}
		return ctx, m.great(ctx)
	})
	few(t, count, map[api.Errno]int{api.OK: 50, api.ErrLong: 25})
}

// What Infer answers is one with every type that Check takes, and with no other.
func TestP904AtRandom(t *testing.T) {
	s := signature(t)
	m := maker{rand.New(rand.NewSource(4)), s}
	count := map[api.Errno]int{}
	for range 400 {
		ctx := m.context(m.Intn(4))
		ty := m.anyType(ctx, 1+m.Intn(6))
		x := m.term(ctx, ty, 1+m.Intn(15))
		own, e := kernel.Infer(s, 0, ctx, x, much)
		if e != api.OK {
			t.Fatalf("P902: %v: %s: %v", shows(ctx), show(x), e)
		}
		for _, other := range []api.Term{ty, own, m.anyType(ctx, 1+m.Intn(3)), m.spoilt(ty), m.spoilt(own)} {
			one, e := conv.Conv(s, own, other, much)
			if e == api.OK && !one {
				e = api.ErrType
			}
			if e2 := kernel.Check(s, 0, ctx, x, other, much); e2 != e {
				t.Errorf("P904: %v: %s of the type %s: %v, not %v", shows(ctx), show(x), show(other), e2, e)
			}
			count[e]++
		}
	}
	few(t, count, map[api.Errno]int{api.OK: 850, api.ErrType: 600})
}
