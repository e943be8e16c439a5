package conv_test

import (
	"fmt"
	"math"
	"testing"

	"telamon/api"
	"telamon/conv"
	"telamon/sig"
	"telamon/term"
)

// takes fails, if Conv of a and b does not take just that many steps: it is told with as much fuel, and not with less.
func takes(t *testing.T, s *sig.Sig, what string, a, b api.Term, want bool, steps int) {
	t.Helper()
	for _, fuel := range []int{steps, steps + 1, 2 * steps, 20 * steps, math.MaxInt} {
		told(t, s, fmt.Sprintf("P802: %s: of %d steps, with the fuel %d", what, steps, fuel), a, b, fuel, want, api.OK)
	}
	for _, fuel := range []int{math.MinInt, -1, 0, steps / 2, steps - 1} {
		if steps > 0 {
			told(t, s, fmt.Sprintf("P803: %s: of %d steps, with the fuel %d", what, steps, fuel), a, b, fuel, false, api.ErrFuel)
		}
	}
}

func TestP802Steps(t *testing.T) {
	s, a, b := signature(t), c("a"), c("b")
	for _, x := range []struct {
		what  string
		a, b  api.Term
		one   bool
		steps int
	}{
		{"none", c("f", a), c("f", a), true, 0},
		{"none, false", c("f", a), c("f", b), false, 0},
		{"none by eta", lam("x y", c("f", c("x"), c("y"))), c("f"), true, 0},
		{"none by the eta of pairs", pair(fst(a), pair(fst(snd(a)), snd(snd(a)))), a, true, 0},
		{"beta on one side", by(a), a, true, 1},
		{"on both", by(a), by(a), true, 2},
		{"on both, false", by(a), by(b), false, 2},
		{"delta", c("one"), c("one'"), true, 2},
		{"iota", natElim(a, b, c("zero")), a, true, 1},
		{"projections", fst(pair(a, b)), snd(pair(b, a)), true, 2},
		{"arguments", c("f", by(a), by(b)), c("f", by(a), b), true, 3},
		{"up to a false one", c("f", by(a), by(a), by(a)), c("f", by(a), by(b), by(a)), false, 4},
		{"not what is not looked at", bind(api.TLam, "x", by(a), a), bind(api.TLam, "x", by(b), a), true, 0},
		{"what is projected, once", fst(by(a)), fst(a), true, 1},
		{"an x, once", natElim(a, b, by(c("f", by(a)))), natElim(a, b, c("f", a)), true, 2},
		{"a row around it", app(fst(by(c("f", by(a)))), by(b)), app(fst(c("f", a)), b), true, 3},
		{"a body", lam("x", by(c("f", by(c("x"))))), c("f"), true, 2},
		{"a sum", c("plus", number(3), number(2)), number(5), true, 4 + 3*3},
	} {
		takes(t, s, x.what, x.a, x.b, x.one, x.steps)
		if one, steps, e := second(s, x.a, x.b, much); one != x.one || e != api.OK || steps < x.steps {
			t.Errorf("%s: the second reading takes %d steps to %v, %v", x.what, steps, one, e)
		}
	}
}

// What is found once is not looked for again, nor asked again: by terms written out these take more than 2^40 steps.
func TestP802Shared(t *testing.T) {
	s := signature(t)
	sum := variable(0)
	for range 60 {
		sum = app(lam("x", c("plus", c("x"), c("x"))), sum)
	}
	takes(t, s, "a sum of an x and itself", sum, sum, true, 2*4*60)
	for what, body := range map[string]api.Term{
		"a row":            c("f", c("x"), c("x")),
		"pairs":            pair(c("x"), c("x")),
		"types":            pi("y", c("x"), c("x")),
		"pairs of types":   sigma("y", c("f", c("x")), c("f", c("x"))),
		"bodies":           c("f", lam("y", c("f", c("x"), c("y"))), lam("y z", c("f", c("x"), c("y")))),
		"further in":       c("f", c("x"), lam("y", c("x")), lam("y", lam("z", c("x")))),
		"parts":            c("f", fst(c("x")), fst(c("x")), snd(c("x"))),
		"an x":             natElim(c("x"), c("f", c("x")), c("x")),
		"a pair applied":   app(pair(c("x"), c("x")), c("x")),
		"a type applied":   app(pi("y", c("x"), c("x")), c("x")),
		"no two of a kind": c("f", pair(c("x"), lam("y", c("x"))), pi("y", c("x"), fst(c("x"))), c("x")),
	} {
		x, y, f := variable(0), variable(1), lam("x", body)
		for range 60 {
			x, y = app(f, x), app(f, y)
		}
		told(t, s, what, x, x, 2*60*20, true, api.OK)
		told(t, s, what+", not the same", x, y, 2*60*20, false, api.OK)
	}
	one, two := c("a"), c("a")
	for range 60 {
		one, two = app(lam("x", pair(c("x"), c("x"))), one), app(lam("x", app(lam("y", pair(c("x"), c("y"))), c("x"))), two)
	}
	takes(t, s, "shared in another way", one, two, true, 3*60)
	for what, x := range map[string]struct{ shared, other api.Term }{
		"pairs": {pair(by(c("a")), by(c("b"))), pair(c("a"), c("b"))},
		"types": {pi("y", by(c("a")), by(c("y"))), pi("y", c("a"), c("y"))},
		"rows":  {c("f", by(c("a")), by(c("b"))), c("f", c("a"), c("b"))},
		"λs":    {lam("y", c("f", by(c("y")), by(c("b")))), lam("y", c("f", c("y"), c("b")))},
	} {
		f := lam("x", c("f", c("x"), c("x"), c("x")))
		one, three := app(f, x.shared), c("f", x.other, x.other, x.other)
		takes(t, s, "one against three: "+what, one, three, true, 3)
		takes(t, s, "one against three, further in: "+what, lam("u", one), lam("u", three), true, 3)
	}
	takes(t, s, "twice, and by eta", twice(60, c("a")), twice(60, by(c("a"))), true, 2*60+1)
}

func TestP802Loops(t *testing.T) {
	s := signature(t)
	for what, x := range map[string]api.Term{
		"a definition":          c("loop"),
		"itself":                endless(self()),
		"bodies":                endless(lam("y", self())),
		"first parts":           endless(pair(self(), c("a"))),
		"second parts":          endless(pair(c("a"), self())),
		"domains":               endless(pi("y", self(), c("a"))),
		"codomains":             endless(pi("y", c("a"), self())),
		"arguments":             endless(c("f", c("a"), self())),
		"arguments ahead":       endless(c("f", self(), c("a"))),
		"an x in an x":          endless(natElim(c("a"), c("b"), self())),
		"what is projected":     endless(fst(self())),
		"pairs of λs":           endless(lam("y", pair(self(), c("y")))),
		"all at once":           endless(pi("y", lam("z", pair(c("f", self(), c("y")), self())), self())),
		"two of each":           endless(pair(self(), self())),
		"two of each, in a row": endless(c("f", self(), lam("y", self()))),
	} {
		for _, fuel := range []int{-1, 0, 1, 2, 1000, 30000} {
			told(t, s, what, x, x, fuel, false, api.ErrFuel)
			told(t, s, what+", on one side", x, by(x), fuel, false, api.ErrFuel)
		}
	}
}

// The edges of what a term on the way may be: its parts, its height, its indices. Eta makes a term greater, of what its Whnf is.
func TestP802Long(t *testing.T) {
	s, top := signature(t), 1<<30
	big := func(parts int) api.Term { // of an even number, too
		if parts%2 == 0 {
			return fst(wide(parts-1, c("a")))
		}
		return wide(parts, c("a"))
	}
	grown := func(parts int) api.Term { // comes to so many parts, of half of them
		return app(lam("x", c("f", c("x"), c("x"))), big((parts-3)/2))
	}
	shrunk := func(parts int) api.Term { return app(lam("x", c("f")), big(parts-4)) }
	if n := term.Size(shrunk(20000)); n != 20000 {
		t.Fatalf("of %d parts", n)
	}
	deep := func(n int, b api.Term) api.Term {
		for range n {
			b = of(api.TLam, c("Nat"), b)
		}
		return b
	}
	l, p := lam("x", c("a")), pair(c("a"), c("b"))
	for what, x := range map[string]struct {
		a, b api.Term
		e    api.Errno
	}{
		"applied, 20,000 parts":          {big(19998), l, api.OK},
		"applied, 20,001 parts":          {big(19999), l, api.ErrLong},
		"projected, 20,000 parts":        {big(19999), p, api.OK},
		"projected, 20,001 parts":        {big(20000), p, api.ErrLong},
		"no eta, 20,000 parts":           {big(20000), c("f"), api.OK},
		"two λs, 20,000 parts":           {lam("x", big(19998)), l, api.OK},
		"applied, 500 high":              {high(499, c("a")), l, api.OK},
		"applied, 501 high":              {high(500, c("a")), l, api.ErrLong},
		"projected, 500 high":            {high(499, c("a")), p, api.OK},
		"projected, 501 high":            {high(500, c("a")), p, api.ErrLong},
		"an argument 499 high":           {c("f", high(498, c("a"))), l, api.OK},
		"an argument 500 high":           {c("f", high(499, c("a"))), l, api.ErrLong},
		"the first argument":             {c("f", high(497, c("a")), c("a")), l, api.OK},
		"the first argument, too high":   {c("f", high(498, c("a")), c("a")), l, api.ErrLong},
		"grown, 19,997 parts":            {grown(19997), l, api.OK},
		"grown, 19,999 parts":            {grown(19999), l, api.ErrLong},
		"grown, projected":               {grown(19999), p, api.OK},
		"grown too far":                  {grown(20001), c("a"), api.ErrLong},
		"shrunk":                         {shrunk(20000), l, api.OK},
		"the greatest index":             {variable(top), c("a"), api.OK},
		"the greatest, applied":          {variable(top), l, api.ErrLong},
		"one less":                       {variable(top - 1), l, api.OK},
		"one less, twice":                {variable(top - 1), lam("x y", c("a")), api.ErrLong},
		"projected":                      {variable(top), p, api.OK},
		"in an argument":                 {c("f", variable(top)), l, api.ErrLong},
		"in an argument, one less":       {c("f", variable(top-1)), l, api.OK},
		"in what is bound":               {c("f", deep(1, variable(top))), l, api.ErrLong},
		"in what is bound, one less":     {c("f", deep(1, variable(top-1))), l, api.OK},
		"under λs on both sides":         {deep(3, variable(top)), deep(3, variable(3)), api.OK},
		"by a step further in":           {deep(3, app(deep(2, variable(1)), variable(top-1))), deep(3, c("a")), api.OK},
		"by a step further in, too far":  {deep(3, app(deep(2, variable(1)), variable(top))), deep(3, c("a")), api.ErrLong},
		"found, and then further in":     {app(deep(1, c("f", variable(0), deep(2, variable(2)))), by(c("g", variable(top-2)))), app(deep(1, c("f", variable(0), deep(2, variable(2)))), c("g", variable(top-3))), api.OK},
		"a level":                        {at("type", []api.Level{{}, {N: api.MaxLevel - 2}}), set(), api.OK},
		"one that is too great":          {at("type", []api.Level{{}, {N: api.MaxLevel - 1}}), set(), api.ErrLong},
		"one that is too great, unasked": {c("f", at("type", []api.Level{{}, {N: api.MaxLevel - 1}})), c("g", set()), api.OK},
	} {
		told(t, s, what, x.a, x.b, much, false, x.e)
		if one, e := held(t, s, x.a, x.b, 1000); one || e != x.e {
			t.Errorf("%s: by the second reading %v, %v", what, one, e)
		}
	}
	told(t, signature(t, def("free", 1, sort(param(1, 0)))), "a level that is not there", at("free", zeros(1)), set(), much, false, api.ErrLevels)
	grow := endless(app(c("x"), c("x"), c("x")))
	told(t, s, "a row that grows", grow, c("a"), much, false, api.ErrLong)
	told(t, s, "with little fuel", grow, c("a"), 20, false, api.ErrFuel)
	told(t, s, "λs without end against a variable", endless(lam("y", self())), variable(0), much, false, api.ErrLong)
}

// What was asked within few binders counts with its indices again, where it is asked within more.
func TestP802LongAgain(t *testing.T) {
	s, top := signature(t), 1<<30
	for in := range 5 {
		b := variable(in)
		for range in {
			b = of(api.TLam, c("Nat"), b)
		}
		twice := of(api.TLam, c("Nat"), c("f", variable(0), b))
		far := app(of(api.TLam, c("Nat"), of(api.TLam, c("Nat"), c("f", variable(1)))), variable(top-3), set())
		x := app(twice, far)
		e := api.OK
		if in > 2 {
			e = api.ErrLong
		}
		if one, e2 := held(t, s, x, x, 1000); one != (e == api.OK) || e2 != e {
			t.Errorf("further in by %d: %v, %v", in, one, e2)
		}
		gone := app(of(api.TLam, c("Nat"), app(of(api.TLam, c("Nat"), pair(c("a"), c("a"))), of(api.TLam, c("Nat"), variable(1)))), variable(top-3)) // by an argument λ. 2^30 - 2 to a pair
		held(t, s, app(twice, gone), app(twice, gone), 1000)
	}
}

func TestP803Deep(t *testing.T) {
	s := signature(t)
	if one, e := conv.Conv(s, number(499), c("plus", number(250), number(249)), 20*(4+3*250)); !one || e != api.OK {
		t.Errorf("%v, %v", one, e)
	}
	if one, e := conv.Conv(s, wide(19999, c("a")), wide(19999, c("a")), 0); !one || e != api.OK {
		t.Errorf("%v, %v", one, e)
	}
	row := c("f")
	for range 498 {
		row = app(row, fst(c("a")))
	}
	if one, e := conv.Conv(s, row, row, 0); !one || e != api.OK {
		t.Errorf("%v, %v", one, e)
	}
}
