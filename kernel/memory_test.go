package kernel_test

import (
	"math/rand"
	"reflect"
	"testing"

	"telamon/api"
	"telamon/kernel"
	"telamon/sig"
	"telamon/term"
)

// sample is a term in a context of its own, and a type that it has.
type sample struct {
	ctx   []api.Term
	t, ty api.Term
}

// samples is terms of all forms, in whose types something stands more than once.
func samples() []sample {
	n, v := c("Nat"), variable(0)
	l := []api.Level{{N: 3, Vars: []api.LVar{{Var: 0}, {Var: 1, Add: 1}}}, param(1, 4)}
	up := api.Level{N: 4, Vars: []api.LVar{{Var: 0, Add: 1}, {Var: 1, Add: 2}}}
	two := sigma("x", n, c("Eq0", c("x"), c("x")))
	id := at("id", l[:1])
	whole := []api.Term{set(0), sort(l[0]), arrow(variable(1), sigma("x", variable(1), variable(1))), variable(2)}
	return []sample{
		{nil, sort(l[0]), sort(up)},
		{whole, variable(1), arrow(variable(3), sigma("x", variable(3), variable(3)))},
		{whole, snd(app(variable(1), v)), variable(3)},
		{whole, lam("x", sort(l[0]), lam("y", c("x"), c("y"))), pi("x", sort(l[0]), arrow(c("x"), c("x")))},
		{whole, hidden(lam("x", variable(3), hidden(app(variable(1), c("x"))))), hidden(arrow(variable(3), sigma("x", variable(3), variable(3))))},
		{nil, id, pi("A", sort(l[0]), arrow(c("A"), c("A")))},
		{nil, at("type", l), sort(api.Level{Vars: []api.LVar{{Var: 0}, {Var: 1, Add: 6}}, N: 0})},
		{nil, pair(two, c("one"), c("hid", c("one"))), two},
		{nil, snd(pair(two, c("one"), c("hid", c("one")))), c("Eq0", c("one"), c("one"))},
		{nil, app(lam("x", n, lam("y", n, c("hid", c("x")))), c("plus", c("one"), c("one"))), arrow(n, c("Eq0", number(2), number(2)))},
		{[]api.Term{c("Prod")}, lam("f", c("Fun"), app(c("f"), fst(v))), arrow(c("Fun"), n)},
		{nil, at("Eq.elim", []api.Level{l[0], l[1]}), at("Eq.elim", []api.Level{l[0], l[1]})},
		{nil, arrow(sort(l[0]), sort(l[1])), sort(api.Level{Vars: []api.LVar{{Var: 0, Add: 1}, {Var: 1, Add: 5}}})},
	}
}

// inferred answers what Infer tells of x, and of what is a type also what Sort tells.
func inferred(t *testing.T, s *sig.Sig, x sample) (api.Term, api.Level) {
	t.Helper()
	ty, e := kernel.Infer(s, 2, x.ctx, x.t, much)
	if e != api.OK {
		t.Fatalf("%s: %v", show(x.t), e)
	}
	l, _ := kernel.Sort(s, 2, x.ctx, x.t, much)
	return ty, l
}

func bare(t api.Term) bool {
	hid := t.Form == api.TPi || t.Form == api.TLam || t.Form == api.TApp
	levels := t.Form == api.TConst || t.Form == api.TSort
	return (t.N == 0 || t.Form == api.TVar || t.Form == api.TMeta) && (hid || !t.Hid) && (t.Name == "") == (t.Form != api.TConst) && (levels || t.Levels == nil)
}

// changed is x with a change made at each part of all its terms.
func changed(x sample, change func(api.Term) api.Term) sample {
	out := sample{t: mapped(x.t, change), ty: mapped(x.ty, change)}
	for _, ty := range x.ctx {
		out.ctx = append(out.ctx, mapped(ty, change))
	}
	return out
}

// Fields that a form does not have are not looked at, and zero in what is answered.
func TestP903OtherFields(t *testing.T) {
	s := signature(t)
	full := func(x api.Term) api.Term {
		y := api.Term{Form: x.Form, N: -5, Hid: true, Name: "one", Levels: []api.Level{{N: -3}}, Kids: x.Kids}
		switch x.Form {
		case api.TVar, api.TMeta:
			y.N = x.N
		case api.TSort:
			y.Levels = x.Levels
		case api.TConst:
			y.Name, y.Levels = x.Name, x.Levels
		case api.TPi, api.TLam, api.TApp:
			y.Hid = x.Hid
		}
		return y
	}
	for i, x := range samples() {
		want, _ := inferred(t, s, x)
		y := changed(x, full)
		got, _ := inferred(t, s, y)
		if !term.Same(got, want) {
			t.Errorf("%d: %s, not %s", i, show(got), show(want))
		}
		mapped(got, func(z api.Term) api.Term {
			if !bare(z) {
				t.Errorf("%d: %+v", i, z)
			}
			return z
		})
		if a, b := kernel.Check(s, 2, x.ctx, x.t, x.ty, much), kernel.Check(s, 2, y.ctx, y.t, y.ty, much); a != b || a != api.OK && x.t.Name != "Eq.elim" {
			t.Errorf("%d: Check: %v, %v", i, a, b)
		}
	}
}

// spoil writes over each list of t, and behind it.
func spoil(t api.Term) {
	for i, l := range t.Levels {
		for j := range l.Vars {
			l.Vars[j] = api.LVar{Var: -9, Add: -9}
		}
		_ = append(l.Vars, api.LVar{Var: -9})
		t.Levels[i] = api.Level{N: -9}
	}
	_ = append(t.Levels, api.Level{N: -9})
	for i, k := range t.Kids {
		spoil(k)
		t.Kids[i] = api.Term{Form: -9}
	}
	_ = append(t.Kids, api.Term{Form: -9})
}

func spoilLevels(all ...api.Level) {
	for _, l := range all {
		for j := range l.Vars {
			l.Vars[j] = api.LVar{Var: -9, Add: -9}
		}
	}
}

func TestP903NewMemory(t *testing.T) {
	s := signature(t)
	decls := s.List()
	for i := range samples() {
		x := samples()[i]
		want, level := inferred(t, s, x)
		for range 2 {
			got, l := inferred(t, s, x)
			kernel.Check(s, 2, x.ctx, x.t, x.ty, much)
			kernel.Infer(s, 2, x.ctx, x.t, 0)
			spoil(got)
			spoilLevels(l)
		}
		if !reflect.DeepEqual(x, samples()[i]) {
			t.Errorf("%d was changed, or shares memory with an answer", i)
		}
		kept, l := inferred(t, s, x)
		spoil(x.t)
		for _, ty := range x.ctx {
			spoil(ty)
		}
		again, l2 := inferred(t, s, samples()[i])
		if !reflect.DeepEqual([]any{want, level, want, level}, []any{kept, l, again, l2}) {
			t.Errorf("%d is kept", i)
		}
	}
	if !reflect.DeepEqual(decls, s.List()) {
		t.Errorf("the signature was changed")
	}
}

func TestP901NewMemory(t *testing.T) {
	s := signature(t)
	given := func() []api.Level {
		return []api.Level{{N: 3, Vars: []api.LVar{{Var: 4, Add: 5}, {Var: 1, Add: 2}}}, param(1, 7)}
	}
	for _, name := range []string{"a", "plus", "Nat", "suc", "id", "U", "Eq", "refl", "type", "Eq.elim", "any"} {
		d, kind := s.Get(name)
		by := given()[:d.Levels]
		if kind == 5 {
			by = given()
		}
		want, e := kernel.Const(s, name, by)
		got, _ := kernel.Const(s, name, by)
		spoil(got)
		if e != api.OK || !reflect.DeepEqual(by, given()[:len(by)]) {
			t.Errorf("%s: %v: %v", name, e, by)
		}
		again, _ := kernel.Const(s, name, by)
		spoilLevels(by...)
		if !reflect.DeepEqual(want, again) {
			t.Errorf("%s: %s, and then %s", name, show(want), show(again))
		}
	}
}

// Each list of an answer is its own.
func TestP903ListsOfTheirOwn(t *testing.T) {
	s := signature(t)
	items := 0
	for i, x := range samples() {
		ty, _ := inferred(t, s, x)
		seen := map[any]int{} // by the address of each item
		var walk func(api.Term)
		walk = func(z api.Term) {
			for i := range z.Kids {
				seen[&z.Kids[i]]++
				walk(z.Kids[i])
			}
			for i, l := range z.Levels {
				seen[&z.Levels[i]]++
				for j := range l.Vars {
					seen[&l.Vars[j]]++
				}
			}
		}
		walk(ty)
		for at, n := range seen {
			if n > 1 {
				t.Fatalf("%d: a list is shared: %+v", i, at)
			}
		}
		items += len(seen)
	}
	if items < 120 {
		t.Fatalf("too little was looked at: %d", items)
	}
}

// Lists that are handed in have spare room, in which nothing is written.
func TestP903SpareRoom(t *testing.T) {
	s := signature(t)
	var kids [][]api.Term
	var levels [][]api.Level
	roomy := func(x api.Term) api.Term {
		k := make([]api.Term, len(x.Kids), len(x.Kids)+3)
		copy(k, x.Kids)
		l := make([]api.Level, len(x.Levels), len(x.Levels)+3)
		copy(l, x.Levels)
		x.Kids, x.Levels = k, l
		kids, levels = append(kids, k), append(levels, l)
		return x
	}
	for _, x := range samples() {
		y := changed(x, roomy)
		ctx := make([]api.Term, len(y.ctx), len(y.ctx)+3)
		copy(ctx, y.ctx)
		y.ctx = ctx
		inferred(t, s, y)
		kernel.Check(s, 2, y.ctx, y.t, y.ty, much)
		kids = append(kids, ctx)
	}
	for i, k := range kids {
		if !reflect.DeepEqual(k[len(k):cap(k)], make([]api.Term, 3)) {
			t.Fatalf("%d: %+v", i, k[:cap(k)])
		}
	}
	for i, l := range levels {
		if !reflect.DeepEqual(l[len(l):cap(l)], make([]api.Level, 3)) {
			t.Fatalf("%d: %+v", i, l[:cap(l)])
		}
	}
}

// An answer hangs on nothing but what is handed in: not on calls ahead, nor on what the signature has besides.
func TestP903SameAgain(t *testing.T) {
	s, r := signature(t), rand.New(rand.NewSource(9))
	more := signature(t, axiom("besides", 0, c("a")), family("Besides", 0, 0, set(0)))
	var want []api.Term
	for _, x := range samples() {
		ty, _ := inferred(t, s, x)
		want = append(want, ty)
	}
	for range 200 {
		i := r.Intn(len(want))
		kernel.Infer(s, 0, []api.Term{endless()}, app(variable(0), c("zero")), r.Intn(100))
		in := []*sig.Sig{s, more}[r.Intn(2)]
		if got, _ := inferred(t, in, samples()[i]); !reflect.DeepEqual(want[i], got) {
			t.Fatalf("%d: another answer: %s", i, show(got))
		}
	}
}

// Calls that run at the same time on one signature do not meet.
func TestP903SideBySide(t *testing.T) {
	s, done := signature(t), make(chan bool)
	for _, x := range samples() {
		want, _ := inferred(t, s, x)
		go func() {
			got, e := kernel.Infer(s, 2, x.ctx, x.t, much)
			done <- e == api.OK && term.Same(got, want)
		}()
	}
	for range samples() {
		if !<-done {
			t.Errorf("another answer")
		}
	}
}
