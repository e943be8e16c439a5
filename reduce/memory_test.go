package reduce_test

import (
	"math/rand"
	"reflect"
	"testing"

	"telamon/api"
	"telamon/reduce"
	"telamon/sig"
	"telamon/term"
)

// samples is terms of all forms, with steps of all kinds, in whose answers something stands more than once.
func samples() []api.Term {
	n, lv := c("Nat"), []api.Level{{N: 3, Vars: []api.LVar{{Var: 0}, {Var: 2, Add: 1}}}, param(1, 4)}
	all := of(api.TPair, bind(api.TSigma, "x", sort(lv[0]), pi("y", sort(lv[1]), app(meta(3), c("x"), variable(5)))), at("k", lv, set()), hidden(lam("x", n, fst(snd(hidden(app(c("x"), variable(2))))))))
	return []api.Term{
		all,
		app(lam("x", n, c("f", c("x"), lam("y", n, c("x")), c("x"))), all),
		app(lam("x", n, pair(c("x"), c("x"))), app(id(), all)),
		at("id", lv[1:], all, all),
		c("f", at("id", lv[1:]), at("id", lv[1:]), at("two", lv), at("two", lv)),
		at("W.elim", append(lv[:2:2], lv[1]), all, all, all, c("m"), at("sup", lv, all, all, all, all)),
		at("Acc.elim", lv[:1], all, all, all, lam("x h r", n, app(c("r"), c("h"), c("r"))), all, c("acc", all, all, all, all)),
		at("Tree.elim", lv[:1], all, all, lam("a b c d r q p", n, c("f", c("r"), c("q"), c("p"), c("d"))), all, c("node", c("leaf"), all, all, c("box", all))),
		natElim(all, all, app(id(), all)),
		fst(app(id(), at("Lev.elim", append(lv[:2:2], lv[0]), all, all, c("m"), all, at("go", lv, all, all)))),
		c("plus", c("plus", number(2), variable(1)), c("one")),
		app(lam("g", n, c("f", c("g"), lam("y", n, c("g")))), lam("x", all, app(lam("z", n, c("z")), at("two", lv)))),
	}
}

// both answers what Whnf and Normal tell of x.
func both(t *testing.T, s *sig.Sig, x api.Term) [2]api.Term {
	t.Helper()
	w, e := reduce.Whnf(s, x, much)
	n, e2 := reduce.Normal(s, x, much)
	if e != api.OK || e2 != api.OK {
		t.Fatalf("%s: %v, %v", show(x), e, e2)
	}
	return [2]api.Term{w, n}
}

func bare(t api.Term) bool {
	hid := t.Form == api.TPi || t.Form == api.TLam || t.Form == api.TApp
	levels := t.Form == api.TConst || t.Form == api.TSort
	return (t.N == 0 || t.Form == api.TVar || t.Form == api.TMeta) && (hid || !t.Hid) && (t.Name == "") == (t.Form != api.TConst) && (levels || t.Levels == nil)
}

// Fields that a form does not have are not looked at, and zero in what is answered.
func TestP703OtherFields(t *testing.T) {
	s := signature(t)
	full := func(x api.Term) api.Term {
		y := api.Term{Form: x.Form, N: -5, Hid: true, Name: "one", Levels: []api.Level{{N: -3}}, Kids: x.Kids}
		switch x.Form {
		case api.TVar, api.TMeta:
			y.N = x.N
		case api.TSort:
			y.Levels = x.Levels
		case api.TConst:
			y.Name, y.Levels = x.Name, x.Levels
		case api.TPi, api.TLam, api.TApp:
			y.Hid = x.Hid
		}
		return y
	}
	for _, x := range samples() {
		want := both(t, s, x)
		for i, y := range both(t, s, mapped(x, full)) {
			if !term.Same(y, want[i]) {
				t.Errorf("%s: %s, not %s", show(x), show(y), show(want[i]))
			}
			mapped(y, func(z api.Term) api.Term {
				if !bare(z) {
					t.Errorf("%s: %+v", show(x), z)
				}
				return z
			})
		}
	}
}

// spoil writes over each list of t, and behind it.
func spoil(t api.Term) {
	for i, l := range t.Levels {
		for j := range l.Vars {
			l.Vars[j] = api.LVar{Var: -9, Add: -9}
		}
		_ = append(l.Vars, api.LVar{Var: -9})
		t.Levels[i] = api.Level{N: -9}
	}
	_ = append(t.Levels, api.Level{N: -9})
	for i, k := range t.Kids {
		spoil(k)
		t.Kids[i] = api.Term{Form: -9}
	}
	_ = append(t.Kids, api.Term{Form: -9})
}

func TestP703NewMemory(t *testing.T) {
	s := signature(t)
	decls := s.List()
	for i := range samples() {
		x := samples()[i]
		want := both(t, s, x)
		got := both(t, s, x)
		if !reflect.DeepEqual(x, samples()[i]) {
			t.Errorf("%s was changed", show(samples()[i]))
		}
		spoil(got[0])
		spoil(got[1])
		if !reflect.DeepEqual(x, samples()[i]) {
			t.Errorf("%s shares memory with an answer", show(samples()[i]))
		}
		kept := both(t, s, x)
		spoil(x)
		if !reflect.DeepEqual(want, kept) || !reflect.DeepEqual(want, both(t, s, samples()[i])) {
			t.Errorf("%s is kept", show(samples()[i]))
		}
	}
	if !reflect.DeepEqual(decls, s.List()) {
		t.Errorf("the signature was changed")
	}
}

// Each list of an answer is its own.
func TestP703ListsOfTheirOwn(t *testing.T) {
	s := signature(t)
	items := 0
	for _, x := range samples() {
		for _, y := range both(t, s, x) {
			seen := map[any]int{} // by the address of each item
			var walk func(api.Term)
			walk = func(z api.Term) {
				for i := range z.Kids {
					seen[&z.Kids[i]]++
					walk(z.Kids[i])
				}
				for i, l := range z.Levels {
					seen[&z.Levels[i]]++
					for j := range l.Vars {
						seen[&l.Vars[j]]++
					}
				}
			}
			walk(y)
			for at, n := range seen {
				if n > 1 {
					t.Fatalf("%s: a list is shared: %+v", show(x), at)
				}
			}
			items += len(seen)
		}
	}
	if items < 500 {
		t.Fatalf("too little was looked at: %d", items)
	}
}

// Lists that are handed in have spare room, in which nothing is written.
func TestP703SpareRoom(t *testing.T) {
	s := signature(t)
	var kids [][]api.Term
	var levels [][]api.Level
	roomy := func(x api.Term) api.Term {
		k := make([]api.Term, len(x.Kids), len(x.Kids)+3)
		copy(k, x.Kids)
		l := make([]api.Level, len(x.Levels), len(x.Levels)+3)
		copy(l, x.Levels)
		x.Kids, x.Levels = k, l
		kids, levels = append(kids, k), append(levels, l)
		return x
	}
	for _, x := range samples() {
		both(t, s, mapped(x, roomy))
	}
	for i := range kids {
		k, l := kids[i], levels[i]
		if !reflect.DeepEqual(k[len(k):cap(k)], make([]api.Term, 3)) || !reflect.DeepEqual(l[len(l):cap(l)], make([]api.Level, 3)) {
			t.Fatalf("%+v, %+v", k[:cap(k)], l[:cap(l)])
		}
	}
}

// An answer hangs on nothing but what is handed in: not on calls ahead, nor on what the signature has besides.
func TestP703SameAgain(t *testing.T) {
	s, r := signature(t), rand.New(rand.NewSource(9))
	more := signature(t, def("besides", 0, c("a")), family("Besides", 0, 0, set()))
	want := map[int][2]api.Term{}
	for i, x := range samples() {
		want[i] = both(t, s, x)
	}
	for range 200 {
		i := r.Intn(len(want))
		reduce.Normal(s, c("loop"), r.Intn(100))
		in := s
		if r.Intn(2) == 0 {
			in = more
		}
		if !reflect.DeepEqual(want[i], both(t, in, samples()[i])) {
			t.Fatalf("%s: another answer", show(samples()[i]))
		}
	}
}
