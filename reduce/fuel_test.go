package reduce_test

import (
	"fmt"
	"testing"

	"telamon/api"
	"telamon/reduce"
	"telamon/sig"
	"telamon/term"
)

type call = func(*sig.Sig, api.Term, int) (api.Term, api.Errno)

// takes fails, if the call of x does not take just that many steps: it is told with as much fuel, and not with less.
func takes(t *testing.T, s *sig.Sig, what string, of call, x api.Term, steps int) {
	t.Helper()
	want, e := of(s, x, much)
	if e != api.OK {
		t.Errorf("P702: %s: %v", what, e)
	}
	for _, fuel := range []int{steps, steps + 1, 2 * steps, 20 * steps} {
		if got, e := of(s, x, fuel); e != api.OK || !term.Same(got, want) {
			t.Errorf("P702: %s: of %d steps, with the fuel %d: %v, %s", what, steps, fuel, e, show(got))
		}
	}
	for _, fuel := range []int{0, steps / 2, steps - 1} {
		if got, e := of(s, x, fuel); steps > 0 && (e != api.ErrFuel || got.Form != 0) {
			t.Errorf("P703: %s: of %d steps, with the fuel %d: %v, %s", what, steps, fuel, e, show(got))
		}
	}
}

func TestP702Steps(t *testing.T) {
	s, n := signature(t), c("Nat")
	a := app(id(), c("a"))
	for _, x := range []struct {
		what         string
		t            api.Term
		whnf, normal int
	}{
		{"none", c("f", c("a")), 0, 0},
		{"beta", a, 1, 1},
		{"in an argument", c("f", a, a), 0, 2},
		{"two", app(lam("x y", n, c("x")), c("a"), c("b")), 2, 2},
		{"delta", c("one"), 1, 1},
		{"iota", natElim(c("z"), c("s"), c("zero")), 1, 1},
		{"fst", fst(pair(c("a"), c("b"))), 1, 1},
		{"a look at what is projected", snd(app(id(), pair(c("a"), c("b")))), 2, 2},
		{"a look at an x", natElim(c("z"), c("s"), app(id(), app(id(), c("zero")))), 3, 3},
		{"a look that comes to nothing", natElim(c("z"), c("s"), a), 1, 1},
		{"one at what is projected", app(fst(a), a), 1, 2},
		{"zero + a", c("plus", c("zero"), c("a")), 4, 4},
		{"1 + 1", c("plus", number(1), number(1)), 6, 7},
		{"what is thrown away", app(lam("x", n, c("a")), c("loop")), 1, 1},
		{"all over", lam("x", app(id(), n), pair(app(id(), c("x")), fst(pair(a, a)))), 0, 4},
	} {
		takes(t, s, x.what, reduce.Whnf, x.t, x.whnf)
		takes(t, s, x.what, reduce.Normal, x.t, x.normal)
	}
	for n := range 20 {
		takes(t, s, fmt.Sprint(n, " + 3"), reduce.Normal, c("plus", number(n), number(3)), 4+3*n)
	}
}

// What is found once is not looked for again: by terms written out these take 2^30 steps, or the square of what they take.
func TestP702Shared(t *testing.T) {
	s, n := signature(t), c("Nat")
	x := c("zero")
	for range 30 {
		x = app(lam("x", n, c("plus", c("x"), c("x"))), x)
	}
	takes(t, s, "a sum of an x and itself", reduce.Whnf, x, 5*30)
	takes(t, s, "a sum of an x and itself", reduce.Normal, x, 5*30)
	x = variable(0)
	for range 100 {
		x = natElim(c("z"), c("s"), app(id(), x))
	}
	takes(t, s, "an x that is looked at, and then made normal", reduce.Normal, x, 100)
	x = variable(0)
	for range 100 {
		x = fst(app(id(), x))
	}
	takes(t, s, "what is projected", reduce.Normal, x, 100)
	body := c("a")
	for range 40 {
		body = app(id(), body)
	}
	x = app(lam("g", n, app(c("f"), times(100, lam("y", n, c("g")))...)), lam("u", n, body))
	takes(t, s, "a λ in many places", reduce.Normal, x, 41)
}

func TestP702Loops(t *testing.T) {
	s, n := signature(t, def("ping", 0, app(id(), c("pong"))), def("pong", 0, c("ping"))), c("Nat")
	twice := lam("x", n, app(c("x"), c("x")))
	deep := lam("x", n, natElim(c("z"), c("s"), app(c("x"), c("x"))))
	part := lam("x", n, fst(app(c("x"), c("x"))))
	for what, x := range map[string]api.Term{
		"itself":                  app(twice, twice),
		"a definition":            c("loop"),
		"one by another":          c("ping"),
		"an x in an x in an x":    app(deep, deep),
		"a part of a part of one": app(part, part),
		"an x":                    natElim(c("z"), c("s"), c("loop")),
		"what is projected":       snd(c("loop")),
	} {
		for _, fuel := range []int{-1, 0, 1, 2, 1000, 200000} {
			refused(t, s, what, x, fuel, api.ErrFuel, api.ErrFuel)
			refused(t, s, "under a λ: "+what, lam("x", n, x), fuel, api.OK, api.ErrFuel)
		}
	}
}

// The edges of what a term on the way may be: its parts, its height, its indices. What is beyond them at one time is refused, though it would be thrown away later.
func TestP702Long(t *testing.T) {
	s, n := signature(t), c("Nat")
	two := func(x api.Term) api.Term { return app(lam("x", n, c("f", c("x"), c("x"))), x) }
	away := func(x api.Term) api.Term {
		return app(lam("x", n, app(lam("y", n, c("a")), c("f", c("x"), c("x")))), x)
	}
	under := of(api.TLam, n, of(api.TLam, n, variable(1)))
	top := 1 << 30
	for what, x := range map[string]struct {
		t api.Term
		e api.Errno
	}{
		"19,999 parts":              {two(wide(9997, c("a"))), api.OK},
		"20,000 parts":              {fst(two(fst(wide(9997, c("a"))))), api.OK},
		"20,001 parts":              {two(wide(9999, c("a"))), api.ErrLong},
		"thrown away":               {away(wide(9995, c("a"))), api.OK},
		"thrown away, too many":     {away(wide(9999, c("a"))), api.ErrLong},
		"500 high":                  {app(lam("x", n, c("suc", c("x"))), high(499, c("a"))), api.OK},
		"501 high":                  {app(lam("x", n, fst(fst(c("x")))), high(499, c("a"))), api.ErrLong},
		"500 high by a row":         {app(lam("x", n, app(c("x"), c("a"))), high(498, c("a")), c("a")), api.OK},
		"501 high by a row":         {app(lam("x", n, app(c("x"), c("a"), c("a"))), high(498, c("a")), c("a")), api.ErrLong},
		"an argument 501 high":      {app(lam("x", n, c("f", c("x"), c("a"))), high(499, c("a"))), api.ErrLong},
		"an argument 500 high":      {app(lam("x", n, c("f", c("x"), c("a"))), high(498, c("a"))), api.OK},
		"the higher one first":      {app(lam("x", n, c("f", high(5, c("x")), c("x"))), high(495, c("a"))), api.ErrLong},
		"the higher one last":       {app(lam("x", n, c("f", c("x"), high(5, c("x")))), high(496, c("a"))), api.ErrLong},
		"the higher one, 500 high":  {app(lam("x", n, c("f", c("x"), high(5, c("x")))), high(495, c("a"))), api.OK},
		"the greatest index":        {app(under, variable(top-1)), api.OK},
		"one above":                 {app(under, variable(top)), api.ErrLong},
		"one above, thrown away":    {app(lam("x", n, c("a")), app(id(), app(under, variable(top)))), api.OK},
		"within a look":             {natElim(c("z"), c("s"), fst(app(under, variable(top)))), api.ErrLong},
		"in a look":                 {natElim(c("z"), c("s"), away(wide(9999, c("a")))), api.ErrLong},
		"in what is projected":      {fst(two(wide(9999, c("a")))), api.ErrLong},
		"more behind":               {app(away(wide(9001, c("a"))), wide(1001, c("a"))), api.OK},
		"more behind, too many":     {app(away(wide(9001, c("a"))), wide(2001, c("a"))), api.ErrLong},
		"rows within one another":   {app(lam("g", n, app(c("g"), wide(1001, c("a")))), app(lam("g", n, app(c("g"), wide(501, c("a")))), away(wide(9001, c("a"))))), api.OK},
		"rows within, too many":     {app(lam("g", n, app(c("g"), wide(1001, c("a")))), app(lam("g", n, app(c("g"), wide(1101, c("a")))), away(wide(9001, c("a"))))), api.ErrLong},
		"methods in each part":      {natElim(wide(4001, c("a")), wide(5001, c("a")), number(1)), api.OK},
		"methods in each, too many": {natElim(wide(4001, c("a")), wide(9001, c("a")), number(1)), api.ErrLong},
	} {
		refused(t, s, what, x.t, much, x.e, x.e)
		held(t, s, x.t, false, 1000)
		held(t, s, x.t, true, 1000)
	}
}

// What was found once counts with all that is around it each time.
func TestP702LongAgain(t *testing.T) {
	s, n := signature(t), c("Nat")
	f := app(lam("y", n, app(lam("z u", n, c("zero")), c("f", c("y"), c("y"), c("y"), c("y")))), wide(4001, c("a"))) // by more than 16,000 parts to λ u. zero
	x := func(b api.Term) api.Term {
		return app(lam("x", n, natElim(app(c("x"), b), c("s"), app(c("x"), c("zero")))), f)
	}
	refused(t, s, "first with little, then with more", x(wide(1001, c("a"))), much, api.OK, api.OK)
	refused(t, s, "first with little, then with too much", x(wide(5001, c("a"))), much, api.ErrLong, api.ErrLong)
	held(t, s, x(wide(1001, c("a"))), true, 1000)
	held(t, s, x(wide(5001, c("a"))), true, 1000)
	k := of(api.TLam, n, of(api.TLam, n, variable(1)))
	far := app(k, variable(1<<30-3), set()) // by λ. 2^30 - 2
	y := func(in int, b api.Term) api.Term {
		for range in {
			b = of(api.TLam, n, b)
		}
		return b
	}
	for in, e := range [][2]api.Errno{{}, {}, {}, {api.OK, api.ErrLong}, {api.ErrLong, api.ErrLong}} {
		z := app(of(api.TLam, n, c("f", variable(0), y(in, variable(in)))), far)
		refused(t, s, fmt.Sprint("further in by ", in), z, much, e[0], e[1])
		held(t, s, z, true, 1000)
		z = app(of(api.TLam, n, natElim(c("z"), c("s"), natElim(c("z"), y(in, fst(variable(in))), variable(0)))), far)
		refused(t, s, fmt.Sprint("looked at further in by ", in), z, much, e[0], e[1])
		held(t, s, z, true, 1000)
	}
	gone := app(of(api.TLam, n, app(of(api.TLam, n, pair(c("a"), c("a"))), of(api.TLam, n, variable(1)))), variable(1<<30-3)) // by an argument λ. 2^30 - 2 to a pair
	for in, e := range [][2]api.Errno{{}, {}, {}, {api.OK, api.ErrLong}, {api.ErrLong, api.ErrLong}} {
		z := app(of(api.TLam, n, c("f", fst(variable(0)), y(in, snd(variable(in))))), gone)
		refused(t, s, fmt.Sprint("a pair looked at further in by ", in), z, much, e[0], e[1])
		held(t, s, z, true, 1000)
	}
}

func TestP702LongNormal(t *testing.T) {
	s, n := signature(t), c("Nat")
	sum := func(a, b int) api.Term { return c("plus", number(a), number(b)) }
	refused(t, s, "499 and 0", sum(249, 250), much, api.OK, api.OK)
	refused(t, s, "the sum 500 is 501 high", sum(250, 250), much, api.OK, api.ErrLong)
	refused(t, s, "far above", sum(400, 400), much, api.OK, api.ErrLong)
	double := func(times int) api.Term {
		x := c("a")
		for range times {
			x = app(lam("x", n, c("f", c("x"), c("x"))), x)
		}
		return x
	}
	refused(t, s, "12 times twice", double(12), much, api.OK, api.OK)
	refused(t, s, "13 times twice", double(13), much, api.OK, api.ErrLong)
	refused(t, s, "100 times twice", double(100), much, api.OK, api.ErrLong)
	grow := lam("x", n, app(c("x"), c("x"), c("x")))
	refused(t, s, "a row that grows", app(grow, grow), much, api.ErrLong, api.ErrLong)
	refused(t, s, "with little fuel", app(grow, grow), 20, api.ErrFuel, api.ErrFuel)
	refused(t, s, "one within another", app(lam("x", n, c("f", app(c("x"), c("x")))), lam("x", n, c("f", app(c("x"), c("x"))))), much, api.OK, api.ErrLong)
	for _, x := range []api.Term{sum(249, 250), sum(250, 250), double(12), double(13), app(grow, grow)} {
		held(t, s, x, true, 4000)
	}
}

// A level that would be too great makes the term too great; one that is not there is told as level.Subst tells it.
func TestP702Levels(t *testing.T) {
	many := func(from, n int) api.Level {
		var l api.Level
		for i := range n {
			l.Vars = append(l.Vars, api.LVar{Var: from + i})
		}
		return l
	}
	far := family("Far", 1, 0, set(), ctor("far", arrow(arrow(sort(param(0, api.MaxLevel)), at("Far", own(1))), at("Far", own(1)))))
	wild := family("Wild", 1, 0, set(), ctor("wild", arrow(arrow(sort(param(2, 0)), at("Wild", own(1))), at("Wild", own(1)))))
	s := signature(t, far, wild, def("top", 1, sort(param(0, api.MaxLevel))), def("free", 1, c("f", sort(param(1, 0)))), def("none", 0, sort(param(0, 0))))
	at1 := func(name string, n int, x ...api.Term) api.Term { return at(name, []api.Level{{N: n}}, x...) }
	refused(t, s, "1000", at1("top", 0), much, api.OK, api.OK)
	refused(t, s, "1001", at1("top", 1), much, api.ErrLong, api.ErrLong)
	refused(t, s, "1001, thrown away", at("id", zeros(1), at1("top", 1)), much, api.OK, api.ErrLong)
	refused(t, s, "64 variables", at("two", []api.Level{many(0, 40), many(16, 40)}), much, api.OK, api.OK)
	refused(t, s, "65 variables", at("two", []api.Level{many(0, 40), many(25, 40)}), much, api.ErrLong, api.ErrLong)
	refused(t, s, "a level that is not there", at1("free", 0), much, api.ErrLevels, api.ErrLevels)
	refused(t, s, "nor there", c("none"), much, api.ErrLevels, api.ErrLevels)
	refused(t, s, "not looked at", c("f", c("none")), much, api.OK, api.ErrLevels)
	refused(t, s, "nor without fuel", c("none"), 0, api.ErrFuel, api.ErrFuel)
	elim := func(name, ctor string, n int) api.Term {
		return at(name, []api.Level{{N: n}, {}}, c("P"), c("m"), at(ctor, zeros(1), c("g")))
	}
	refused(t, s, "in a recursive argument", elim("Far.elim", "far", 0), much, api.OK, api.OK)
	refused(t, s, "in one, too great", elim("Far.elim", "far", 1), much, api.ErrLong, api.ErrLong)
	refused(t, s, "in one, not there", elim("Wild.elim", "wild", 0), much, api.ErrLevels, api.ErrLevels)
}

// A look within a look goes as deep as there is fuel.
func TestP703Deep(t *testing.T) {
	s, n := signature(t), c("Nat")
	deep := lam("x", n, natElim(c("z"), c("s"), app(c("x"), c("x"))))
	refused(t, s, "without end", app(deep, deep), 300000, api.ErrFuel, api.ErrFuel)
	sum := number(0)
	for i := range 8 {
		sum = c("plus", number(20+i), sum)
	}
	if got, e := reduce.Normal(s, sum, much); e != api.OK || !term.Same(got, number(8*20+28)) {
		t.Errorf("P701: %v", e)
	}
}
