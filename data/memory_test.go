package data_test

import (
	"math/rand"
	"reflect"
	"testing"

	"telamon/api"
	"telamon/data"
	"telamon/sig"
)

// samples is declarations of all kinds, and what Check tells of them.
func samples() []in {
	n, d := c("Nat"), c("D")
	v := []api.Level{param(0, 0)}
	poly := family("D", 1, 1, pi("A", sort(v[0]), sort(v[0])), ctor("k", pi("A", sort(v[0]), arrow(c("A"), at("D", v, c("A")), at("D", v, c("A"))))))
	return []in{
		is(axiom("x", 2, sort(api.Level{N: 3, Vars: []api.LVar{{Var: 0}, {Var: 1, Add: 1}}}))),
		is(def("x", 0, sigma("x", n, c("Eq0", c("x"), number(2))), pair(sigma("x", n, c("Eq0", c("x"), number(2))), number(2), at("refl", levels(0), n, number(2))))),
		is(def("x", 0, arrow(sigma("x", n, n), n), lam("p", sigma("x", n, n), c("plus", fst(c("p")), snd(c("p")))))),
		is(poly),
		is(family("D", 0, 0, arrow(n, set(0)), ctor("k", c("D", number(1))), ctor("l", pi("n", n, arrow(c("D", c("n")), c("D", c("plus", c("n"), c("n")))))))),
		not(api.ErrTwice, nat()),
		not(api.ErrSort, axiom("x", 0, c("zero"))),
		not(api.ErrType, def("x", 0, n, set(0))),
		not(api.ErrPositive, one(arrow(arrow(d, d), d))),
		not(api.ErrUniverse, one(arrow(n, set(0), d))),
		not(api.ErrData, one(n)),
		not(api.ErrForm, api.Decl{Kind: 9, Name: "x", Type: set(0)}),
	}
}

// full is t with something in each field that its form does not have.
func full(t api.Term) api.Term {
	y := api.Term{Form: t.Form, N: -5, Hid: true, Name: "D", Levels: []api.Level{{N: -3}}, Kids: t.Kids}
	switch t.Form {
	case api.TVar, api.TMeta:
		y.N = t.N
	case api.TSort:
		y.Levels = t.Levels
	case api.TConst:
		y.Name, y.Levels = t.Name, t.Levels
	case api.TPi, api.TLam, api.TApp:
		y.Hid = t.Hid
	}
	return y
}

// Fields that a form or a Kind does not have are not looked at, and zero in what was put.
func TestP1003OtherFields(t *testing.T) {
	s := signature(t)
	for i, x := range samples() {
		d := all(x.d, full)
		wrong := api.Term{Form: -4}
		if d.Kind != api.DDef {
			d.Value = wrong
		}
		if d.Kind != api.DData {
			d.Params, d.Ctors = -7, []api.Ctor{ctor("", wrong), ctor("zero", wrong)}
		}
		if e := data.Check(s, d, much); e != x.e {
			t.Errorf("P1003: %d: %v, not %v", i, e, x.e)
		}
		a, b := s.Copy(), s.Copy()
		if e := data.Add(a, d, much); e != x.e {
			t.Errorf("P1003: %d: Add: %v, not %v", i, e, x.e)
		}
		data.Add(b, x.d, much)
		if !reflect.DeepEqual(a.List(), b.List()) {
			t.Errorf("P1003: %d: something else was put", i)
		}
		if at, e := data.Well(append(decls(), d), much); e != x.e || (e == api.OK) != (at == -1) {
			t.Errorf("P1003: %d: Well: %d, %v", i, at, e)
		}
	}
}

// spoil writes over each list of t, and behind it.
func spoil(t api.Term) {
	for i, l := range t.Levels {
		for j := range l.Vars {
			l.Vars[j] = api.LVar{Var: -9, Add: -9}
		}
		t.Levels[i] = api.Level{N: -9}
	}
	for i, k := range t.Kids {
		spoil(k)
		t.Kids[i] = api.Term{Form: -9}
	}
}

// What is handed in is neither changed nor kept.
func TestP1003NotKept(t *testing.T) {
	for i := range samples() {
		s, x := signature(t), samples()[i]
		data.Check(s, x.d, much)
		data.Check(s, x.d, 0)
		data.Well([]api.Decl{x.d, x.d}, much)
		data.Add(s, x.d, much)
		if !reflect.DeepEqual(x, samples()[i]) {
			t.Errorf("P1003: %d was changed", i)
		}
		want := s.List()
		spoil(x.d.Type)
		spoil(x.d.Value)
		for j, k := range x.d.Ctors {
			spoil(k.Type)
			x.d.Ctors[j] = api.Ctor{}
		}
		if !reflect.DeepEqual(want, s.List()) {
			t.Errorf("P1003: %d is kept", i)
		}
	}
}

// Lists that are handed in have spare room, in which nothing is written.
func TestP1003SpareRoom(t *testing.T) {
	s := signature(t)
	var kids [][]api.Term
	var levels [][]api.Level
	roomy := func(x api.Term) api.Term {
		k := make([]api.Term, len(x.Kids), len(x.Kids)+3)
		copy(k, x.Kids)
		l := make([]api.Level, len(x.Levels), len(x.Levels)+3)
		copy(l, x.Levels)
		x.Kids, x.Levels = k, l
		kids, levels = append(kids, k), append(levels, l)
		return x
	}
	for i, x := range samples() {
		d := all(x.d, roomy)
		ctors := make([]api.Ctor, len(d.Ctors), len(d.Ctors)+3)
		copy(ctors, d.Ctors)
		d.Ctors = ctors
		list := make([]api.Decl, 1, 3)
		list[0] = d
		data.Check(s, d, much)
		data.Add(s.Copy(), d, much)
		data.Well(list, much)
		if !reflect.DeepEqual(ctors[len(ctors):cap(ctors)], make([]api.Ctor, 3)) || !reflect.DeepEqual(list[1:3], make([]api.Decl, 2)) {
			t.Errorf("P1003: %d: %+v, %+v", i, ctors[:cap(ctors)], list[:3])
		}
	}
	for i, k := range kids {
		if !reflect.DeepEqual(k[len(k):cap(k)], make([]api.Term, 3)) {
			t.Fatalf("P1003: %d: %+v", i, k[:cap(k)])
		}
	}
	for i, l := range levels {
		if !reflect.DeepEqual(l[len(l):cap(l)], make([]api.Level, 3)) {
			t.Fatalf("P1003: %d: %+v", i, l[:cap(l)])
		}
	}
}

// An answer hangs on nothing but what is handed in: not on calls ahead, nor on what the signature has besides.
func TestP1003SameAgain(t *testing.T) {
	r := rand.New(rand.NewSource(9))
	s := signature(t)
	more := signature(t, axiom("besides", 0, c("Nat")), family("Besides", 0, 0, set(0)))
	for range 300 {
		x := samples()[r.Intn(len(samples()))]
		other := samples()[r.Intn(len(samples()))]
		data.Check(s, other.d, r.Intn(10))
		data.Well([]api.Decl{other.d}, much)
		if e := data.Check([]*sig.Sig{s, more}[r.Intn(2)], x.d, much); e != x.e {
			t.Fatalf("P1003: %s: another answer: %v", showDecl(x.d), e)
		}
	}
}

// Calls that run at the same time on one signature do not meet.
func TestP1003SideBySide(t *testing.T) {
	s, done := signature(t), make(chan bool)
	for _, x := range samples() {
		go func() { done <- data.Check(s, x.d, much) == x.e }()
	}
	for range samples() {
		if !<-done {
			t.Errorf("P1003: another answer")
		}
	}
}
