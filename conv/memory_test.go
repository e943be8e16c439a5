package conv_test

import (
	"math/rand"
	"reflect"
	"testing"

	"telamon/api"
	"telamon/conv"
	"telamon/sig"
)

// samples is pairs of terms of all forms, with steps of all kinds, and whether they are one.
func samples() []struct {
	twoTerms
	one bool
} {
	lv := []api.Level{{N: 3, Vars: []api.LVar{{Var: 0}, {Var: 2, Add: 1}}}, param(1, 4)}
	x := of(api.TPair, sigma("x", sort(lv[0]), pi("y", sort(lv[1]), app(meta(3), c("x"), variable(5)))), at("k", lv, set()), hidden(lam("x", fst(snd(hidden(app(c("x"), variable(2))))))))
	eta := of(api.TPair, sigma("x", c("a"), c("b")), fst(by(x)), lam("z", app(snd(x), c("z"))))
	types := func(l api.Level) api.Term { return pi("x", sort(l), sigma("y", c("x"), c("f", c("y"), x))) }
	return []struct {
		twoTerms
		one bool
	}{
		{twoTerms{x, x}, true},
		{twoTerms{x, eta}, true},
		{twoTerms{by(x), app(lam("x", c("x")), eta)}, true},
		{twoTerms{x, by(c("a"))}, false},
		{twoTerms{types(lv[0]), types(lv[0])}, true},
		{twoTerms{types(lv[0]), types(lv[1])}, false},
		{twoTerms{natElim(x, x, by(variable(1))), natElim(eta, eta, variable(1))}, true},
		{twoTerms{at("W.elim", lv[:1], x, x, x, c("m"), c("sup", x, x, x, x)), c("m")}, false},
		{twoTerms{at("type", lv), sort(api.Level{Vars: []api.LVar{{Var: 0}, {Var: 1, Add: 6}, {Var: 2, Add: 1}}})}, true},
		{twoTerms{c("plus", number(3), number(4)), c("plus", number(5), number(2))}, true},
		{twoTerms{at("id", lv[1:], x, c("f")), lam("y", c("f", c("y")))}, true},
		{twoTerms{twice(12, x), twice(12, eta)}, true},
	}
}

// Fields that a form does not have are not looked at.
func TestP803OtherFields(t *testing.T) {
	s := signature(t)
	full := func(mark string) func(api.Term) api.Term {
		return func(x api.Term) api.Term {
			y := api.Term{Form: x.Form, N: -len(mark), Hid: true, Name: mark, Levels: []api.Level{{N: -len(mark)}}, Kids: x.Kids}
			switch x.Form {
			case api.TVar, api.TMeta:
				y.N = x.N
			case api.TSort:
				y.Levels = x.Levels
			case api.TConst:
				y.Name, y.Levels = x.Name, x.Levels
			}
			return y
		}
	}
	for i, x := range samples() {
		if one, e := conv.Conv(s, mapped(x.a, full("one")), mapped(x.b, full("other")), much); one != x.one || e != api.OK {
			t.Errorf("%d: %v, %v", i, one, e)
		}
	}
}

func TestP803NotChanged(t *testing.T) {
	s := signature(t)
	decls := s.List()
	for i, x := range samples() {
		for _, fuel := range []int{much, 0, 1} {
			told(t, s, "", x.a, x.b, much, x.one, api.OK)
			conv.Conv(s, x.a, x.b, fuel)
		}
		if !reflect.DeepEqual(x, samples()[i]) {
			t.Errorf("%d was changed", i)
		}
	}
	if !reflect.DeepEqual(decls, s.List()) {
		t.Errorf("the signature was changed")
	}
}

// What is handed in may have room behind its lists, in which nothing is written.
func TestP803SpareRoom(t *testing.T) {
	s := signature(t)
	var kids [][]api.Term
	var levels [][]api.Level
	roomy := func(x api.Term) api.Term {
		k := make([]api.Term, len(x.Kids), len(x.Kids)+3)
		copy(k, x.Kids)
		l := make([]api.Level, len(x.Levels), len(x.Levels)+3)
		copy(l, x.Levels)
		x.Kids, x.Levels = k, l
		kids, levels = append(kids, k), append(levels, l)
		return x
	}
	for _, x := range samples() {
		told(t, s, "", mapped(x.a, roomy), mapped(x.b, roomy), much, x.one, api.OK)
	}
	for i := range kids {
		k, l := kids[i], levels[i]
		if !reflect.DeepEqual(k[len(k):cap(k)], make([]api.Term, 3)) || !reflect.DeepEqual(l[len(l):cap(l)], make([]api.Level, 3)) {
			t.Fatalf("%+v, %+v", k[:cap(k)], l[:cap(l)])
		}
	}
}

// An answer hangs on nothing but what is handed in: not on calls ahead, nor on what the signature has besides.
func TestP803SameAgain(t *testing.T) {
	s, r := signature(t), rand.New(rand.NewSource(9))
	more := signature(t, def("besides", 0, c("a")), family("Besides", 0, 0, set()))
	all := samples()
	for range 200 {
		x := all[r.Intn(len(all))]
		conv.Conv(s, c("loop"), x.a, r.Intn(100))
		in := []*sig.Sig{s, more}[r.Intn(2)]
		told(t, in, "again", x.a, x.b, much, x.one, api.OK)
	}
}

// Calls that run at the same time on one signature do not meet.
func TestP803SideBySide(t *testing.T) {
	s, done := signature(t), make(chan bool)
	for _, x := range samples() {
		go func() {
			one, e := conv.Conv(s, x.a, x.b, much)
			done <- one == x.one && e == api.OK
		}()
	}
	for range samples() {
		if !<-done {
			t.Errorf("another answer")
		}
	}
}
