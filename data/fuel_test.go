package data_test

import (
	"strconv"
	"testing"

	"telamon/api"
	"telamon/data"
	"telamon/sig"
)

// takes fails, if Check or Add do not need just so much fuel.
func takes(t *testing.T, s *sig.Sig, what string, d api.Decl, steps int, e api.Errno) {
	t.Helper()
	for fuel := -2; fuel <= steps+3; fuel++ {
		want := e
		if max(fuel, 0) < steps {
			want = api.ErrFuel
		}
		own := s.Copy()
		if got := data.Check(s, d, fuel); got != want {
			t.Errorf("P1003: %s: Check with %d of %d: %v, not %v", what, fuel, steps, got, want)
		}
		if got := data.Add(own, d, fuel); got != want || (len(own.List()) > len(s.List())) != (want == api.OK) {
			t.Errorf("P1003: %s: Add with %d of %d: %v, not %v", what, fuel, steps, got, want)
		}
	}
}

// All calls of the kernel have one fuel: each has what is left.
func TestP1003Fuel(t *testing.T) {
	s, n, d := signature(t), c("Nat"), c("D")
	u := at("any", levels(1), at("U", levels(0))) // a type: that takes one step
	twice := func(ty api.Term) api.Decl { return family("D", 0, 0, set(0), ctor("k", ty)) }
	for what, x := range map[string]struct {
		d     api.Decl
		steps int
		e     api.Errno
	}{
		"none":                       {axiom("x", 0, n), 0, api.OK},
		"none of a family":           {one(arrow(n, d, arrow(n, d), d)), 0, api.OK},
		"none of what is no type":    {axiom("x", 0, c("zero")), 0, api.ErrSort},
		"the type":                   {axiom("x", 0, u), 1, api.OK},
		"the type's parts":           {axiom("x", 0, arrow(u, u, n)), 2, api.OK},
		"the value":                  {def("x", 0, c("N"), c("zero")), 1, api.OK},
		"the type, and the value":    {def("x", 0, arrow(u, n), lam("y", u, app(lam("z", c("N"), c("z")), c("zero")))), 6, api.OK},
		"a type for nothing":         {def("x", 0, arrow(u, n), c("nothing")), 1, api.ErrConst},
		"none behind what is wrong":  {def("x", 0, c("zero"), c("y", u)), 0, api.ErrSort},
		"a family's type":            {family("D", 0, 0, arrow(u, set(0))), 1, api.OK},
		"that is none":               {family("D", 0, 1, arrow(u, n)), 1, api.ErrData},
		"an argument, twice":         {twice(arrow(u, d)), 2, api.OK},
		"two arguments":              {twice(arrow(u, n, u, d)), 4, api.OK},
		"a param, once more":         {family("D", 0, 1, arrow(u, set(0)), ctor("k", pi("x", u, c("D", c("x"))))), 4, api.OK},
		"and an argument":            {family("D", 0, 1, arrow(u, set(0)), ctor("k", pi("x", u, arrow(u, c("D", c("x")))))), 6, api.OK},
		"an index":                   {family("D", 0, 0, arrow(c("N"), set(0)), ctor("k", c("D", c("zero")))), 1, api.OK},
		"two constructors":           {family("D", 0, 0, set(0), ctor("k", arrow(u, d)), ctor("l", arrow(n, u, d))), 4, api.OK},
		"as far as what is wrong":    {family("D", 0, 0, set(0), ctor("k", arrow(u, d)), ctor("l", n)), 2, api.ErrData},
		"a type that is no place":    {twice(arrow(u, arrow(d, d), u, d)), 3, api.ErrPositive},
		"ahead of the first look":    {twice(arrow(arrow(d, d), u, d)), 1, api.ErrPositive},
		"the result ahead of a look": {family("D", 0, 0, arrow(set(0), set(0)), ctor("k", arrow(u, c("D", c("D", n))))), 1, api.ErrPositive},
		"a universe":                 {twice(arrow(u, set(0), u, d)), 3, api.ErrUniverse},
	} {
		takes(t, s, what, x.d, x.steps, x.e)
		if e := held(t, s, x.d, much); e != x.e {
			t.Errorf("P1003: %s: by the second reading: %v", what, e)
		}
	}
}

// Of Well each declaration has all the fuel.
func TestP1003Well(t *testing.T) {
	l := []api.Decl{nat(), def("N", 0, set(0), c("Nat"))}
	for _, name := range []string{"x", "y", "z"} {
		l = append(l, def(name, 0, c("N"), c("zero")))
	}
	l = append(l, def("two", 0, arrow(c("N"), c("N")), app(lam("f", arrow(c("Nat"), c("N")), c("f")), c("suc"))))
	for fuel, want := range map[int]int{-1 << 63: 2, -1: 2, 0: 2, 1: 5, 3: 5, 4: -1, 5: -1, much: -1} {
		at, e := data.Well(l, fuel)
		if at != want || (e == api.OK) != (want < 0) || e != api.OK && e != api.ErrFuel {
			t.Errorf("P1003: with %d: %d, %v, not %d", fuel, at, e, want)
		}
	}
}

// doubling is functions of numbers, p0 to p30: each makes twice as many steps as the one ahead, and a few more.
func doubling() []api.Decl {
	f := arrow(c("Nat"), c("Nat"))
	l := []api.Decl{def("p0", 0, f, nats("x", c("x")))}
	for i := range 30 {
		half := "p" + strconv.Itoa(i)
		l = append(l, def("p"+strconv.Itoa(i+1), 0, f, nats("x", c(half, c(half, c("x"))))))
	}
	return l
}

// What takes too long is told as ErrFuel, wherever it is asked for; and nowhere else.
func TestP1003Loops(t *testing.T) {
	s, n, d := signature(t, doubling()...), c("Nat"), c("D")
	far := c("p30", c("zero"))
	loop := c("Eq0", c("zero"), far)
	proof := at("refl", levels(0), n, c("zero"))
	wrong := c("nothing")
	for _, fuel := range []int{-1 << 63, -1, 0, 1, 1000, 20000} {
		for what, x := range map[string]api.Decl{
			"a value":         def("x", 0, loop, proof),
			"a type":          axiom("x", 0, pi("y", n, app(lam("p", loop, n), proof))),
			"ahead of a fam.": family("D", 0, 0, arrow(app(lam("p", loop, n), proof), set(0)), ctor("k", wrong)),
			"a constructor":   family("D", 0, 0, set(0), ctor("k", arrow(app(lam("p", loop, n), proof), d)), ctor("l", wrong)),
			"its result":      family("D", 0, 0, arrow(loop, set(0)), ctor("k", c("D", proof)), ctor("l", wrong)),
		} {
			if e := data.Check(s, x, fuel); e != api.ErrFuel {
				t.Errorf("P1003: %s with %d: %v", what, fuel, e)
			}
			if at, e := data.Well(append(s.List(), x), max(fuel, 2000)); at != len(s.List()) || e != api.ErrFuel {
				t.Errorf("P1003: %s: Well with %d: %d, %v", what, fuel, at, e)
			}
		}
		for what, x := range map[string]in{
			"a type that nobody asks": is(axiom("x", 0, loop)),
			"a value that nobody":     is(def("x", 0, n, far)),
			"an argument's type":      is(one(arrow(loop, d))),
			"an index":                is(family("D", 0, 0, arrow(n, set(0)), ctor("k", c("D", far)))),
			"behind what is wrong":    not(api.ErrConst, def("x", 0, arrow(loop, wrong), proof)),
			"a name":                  not(api.ErrTwice, def("plus", 0, loop, proof)),
			"no place":                not(api.ErrPositive, one(arrow(arrow(d, loop), d))),
			"a universe":              not(api.ErrUniverse, one(arrow(arrow(loop, set(0)), d))),
		} {
			if e := data.Check(s, x.d, fuel); e != x.e {
				t.Errorf("P1003: %s with %d: %v, not %v", what, fuel, e, x.e)
			}
		}
	}
}
