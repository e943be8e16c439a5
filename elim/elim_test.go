package elim_test

import (
	"fmt"
	"math"
	"reflect"
	"slices"
	"strings"
	"testing"

	"telamon/api"
	"telamon/bytes"
	"telamon/elim"
	"telamon/tele"
	"telamon/term"
)

func variable(n int) api.Term { return api.Term{Form: api.TVar, N: n} }

func sort(l api.Level) api.Term { return api.Term{Form: api.TSort, Levels: []api.Level{l}} }

func set() api.Term { return sort(api.Level{}) }

func param(n, add int) api.Level { return api.Level{Vars: []api.LVar{{Var: n, Add: add}}} }

// own is the level parameters 0 to n - 1.
func own(n int) []api.Level {
	var l []api.Level
	for i := range n {
		l = append(l, param(i, 0))
	}
	return l
}

func of(form int, kids ...api.Term) api.Term { return api.Term{Form: form, Kids: kids} }

func hidden(t api.Term) api.Term {
	t.Hid = true
	return t
}

func app(f api.Term, args ...api.Term) api.Term {
	for _, a := range args {
		f = of(api.TApp, f, a)
	}
	return f
}

// c is the constant of that name, without levels, applied to args; at is the same with levels.
func c(name string, args ...api.Term) api.Term { return at(name, nil, args...) }

func at(name string, levels []api.Level, args ...api.Term) api.Term {
	return app(api.Term{Form: api.TConst, Name: name, Levels: levels}, args...)
}

// pi is (x : domain) -> codomain, in which the constant x stands for the variable: the tests write by names what the program tells by indices.
func pi(x string, domain, codomain api.Term) api.Term {
	return of(api.TPi, domain, bound(codomain, x, 0))
}

func arrow(domain, codomain api.Term) api.Term { return pi("", domain, codomain) }

// bound is t in the scope of one variable more, which is put for the constant x.
func bound(t api.Term, x string, deep int) api.Term {
	switch {
	case t.Form == api.TVar && t.N >= deep:
		return variable(t.N + 1)
	case t.Form == api.TConst && t.Name == x:
		return variable(deep)
	}
	kids := t.Kids
	t.Kids = nil
	for i, k := range kids {
		below := deep
		if i == 1 && (t.Form == api.TPi || t.Form == api.TLam || t.Form == api.TSigma) {
			below++
		}
		t.Kids = append(t.Kids, bound(k, x, below))
	}
	return t
}

// in is t in the scope of the variables of these names, the last one the innermost.
func in(names string, t api.Term) api.Term {
	for _, x := range strings.Fields(names) {
		t = bound(t, x, 0)
	}
	return t
}

// pis is t with a TPi around it for each of l, however many there are.
func pis(l []api.Term, t api.Term) api.Term {
	for _, x := range slices.Backward(l) {
		t = of(api.TPi, x, t)
	}
	return t
}

func times[T any](n int, x T) []T {
	l := make([]T, n)
	for i := range l {
		l[i] = x
	}
	return l
}

// high is a term of that height, with t at its bottom.
func high(n int, t api.Term) api.Term {
	for range n - 1 {
		t = of(api.TFst, t)
	}
	return t
}

// wide is a term of that many parts (an odd number), with t in each leaf.
func wide(parts int, t api.Term) api.Term {
	if parts == 1 {
		return t
	}
	left := (parts-1)/2 | 1
	return of(api.TApp, wide(left, t), wide(parts-1-left, t))
}

func family(name string, levels, params int, ty api.Term, ctors ...api.Ctor) api.Decl {
	return api.Decl{Kind: api.DData, Name: name, Levels: levels, Params: params, Type: ty, Ctors: ctors}
}

func ctor(name string, ty api.Term) api.Ctor { return api.Ctor{Name: name, Type: ty} }

func nat() api.Decl {
	return family("Nat", 0, 0, set(), ctor("zero", c("Nat")), ctor("suc", arrow(c("Nat"), c("Nat"))))
}

func vec() api.Decl {
	cons := pi("A", set(), pi("n", c("Nat"), arrow(c("A"), arrow(c("Vec", c("A"), c("n")), c("Vec", c("A"), c("suc", c("n")))))))
	return family("Vec", 0, 1, pi("A", set(), arrow(c("Nat"), set())), ctor("nil", pi("A", set(), c("Vec", c("A"), c("zero")))), ctor("cons", cons))
}

// eq is the identity type; refl's TPis are hidden.
func eq() api.Decl {
	s, l := sort(param(0, 0)), own(1)
	refl := hidden(pi("A", s, hidden(pi("a", c("A"), at("Eq", l, c("A"), c("a"), c("a"))))))
	return family("Eq", 1, 2, pi("A", s, pi("a", c("A"), arrow(c("A"), s))), ctor("refl", refl))
}

func bot() api.Decl { return family("Bot", 0, 0, set()) }

// w is well-founded trees: of two level parameters, with a recursive argument that is a function.
func w() api.Decl {
	l, top := own(2), sort(api.Level{Vars: []api.LVar{{Var: 0}, {Var: 1}}})
	over := func(t api.Term) api.Term {
		return pi("A", sort(param(0, 0)), pi("B", arrow(c("A"), sort(param(1, 0))), t))
	}
	tree := at("W", l, c("A"), c("B"))
	return family("W", 2, 2, over(top), ctor("sup", over(pi("a", c("A"), arrow(arrow(app(c("B"), c("a")), tree), tree)))))
}

// acc is what can be come to by R: its recursive argument's type has two zs, of which the index hangs on the first.
func acc() api.Decl {
	over := func(t api.Term) api.Term {
		return pi("A", set(), pi("R", arrow(c("A"), arrow(c("A"), set())), t))
	}
	below := pi("y", c("A"), arrow(app(c("R"), c("y"), c("x")), c("Acc", c("A"), c("R"), c("y"))))
	return family("Acc", 0, 2, over(arrow(c("A"), set())), ctor("acc", over(pi("x", c("A"), arrow(below, c("Acc", c("A"), c("R"), c("x")))))))
}

// tree has recursive arguments among others, and two constructors without any.
func tree() api.Decl {
	t, n := c("Tree"), c("Nat")
	node := arrow(t, pi("n", n, arrow(arrow(n, arrow(c("Eq", n, c("n"), c("n")), t)), arrow(t, t))))
	return family("Tree", 0, 0, set(), ctor("leaf", t), ctor("node", node), ctor("box", arrow(n, t)))
}

// sorted has two indices, the second one's type hanging on the first; each of its constructors has its own.
func sorted() api.Decl {
	ty := pi("X", sort(api.Level{N: 1}), pi("A", set(), arrow(c("A"), sort(api.Level{N: 2}))))
	one := pi("X", sort(api.Level{N: 1}), pi("B", set(), pi("b", c("B"), arrow(c("S", c("X"), c("B"), c("b")), c("S", c("X"), c("Nat"), c("zero"))))))
	return family("S", 0, 1, ty, ctor("one", one), ctor("two", pi("Y", sort(api.Level{N: 1}), c("S", c("Y"), c("Top"), c("tt")))))
}

func families() []api.Decl {
	return []api.Decl{nat(), vec(), eq(), bot(), w(), acc(), tree(), sorted()}
}

// changed answers d with a change.
func changed(d api.Decl, change func(*api.Decl)) api.Decl {
	d.Ctors = slices.Clone(d.Ctors)
	change(&d)
	return d
}

// errs asks all four calls, and answers what Parts, Ctor, Type, Method tell; beside an error there must be nothing.
func errs(t *testing.T, what any, d api.Decl, k int) [4]api.Errno {
	t.Helper()
	params, indices, level, e0 := elim.Parts(d)
	args, rec, result, e1 := elim.Ctor(d, k)
	ty, e2 := elim.Type(d)
	method, e3 := elim.Method(d, k)
	if e0 != api.OK && (len(params)+len(indices) > 0 || !reflect.DeepEqual(level, api.Level{})) {
		t.Errorf("%v: beside Parts' error: %v, %v, %v", what, params, indices, level)
	}
	if e1 != api.OK && len(args)+len(rec)+len(result) > 0 {
		t.Errorf("%v: beside Ctor's error: %v, %v, %v", what, args, rec, result)
	}
	if e2 != api.OK && !reflect.DeepEqual(ty, api.Term{}) || e3 != api.OK && !reflect.DeepEqual(method, api.Term{}) {
		t.Errorf("%v: beside the error of Type, Method: %v, %v", what, ty, method)
	}
	return [4]api.Errno{e0, e1, e2, e3}
}

// refused fails, if the four calls do not tell these errors.
func refused(t *testing.T, what any, d api.Decl, k int, want ...api.Errno) {
	t.Helper()
	if got := errs(t, what, d, k); !slices.Equal(got[:], want) {
		t.Errorf("%v: %v, not %v", what, got, want)
	}
}

func sameAll(a, b []api.Term) bool { return slices.EqualFunc(a, b, term.Same) }

// isCtor fails, if Ctor does not tell just that.
func isCtor(t *testing.T, d api.Decl, k int, args []api.Term, rec []int, result []api.Term) {
	t.Helper()
	a, r, x, e := elim.Ctor(d, k)
	if e != api.OK || !sameAll(a, args) || !slices.Equal(r, rec) || !sameAll(x, result) {
		t.Errorf("Ctor %d of %s: %v, %v, %v, %v", k, d.Name, a, r, x, e)
	}
}

func isParts(t *testing.T, d api.Decl, params, indices []api.Term, l api.Level) {
	t.Helper()
	p, i, s, e := elim.Parts(d)
	if e != api.OK || !sameAll(p, params) || !sameAll(i, indices) || !reflect.DeepEqual(s, l) {
		t.Errorf("Parts of %s: %v, %v, %v, %v", d.Name, p, i, s, e)
	}
}

func TestP601Parts(t *testing.T) {
	s := sort(param(0, 0))
	isParts(t, nat(), nil, nil, api.Level{})
	isParts(t, vec(), []api.Term{set()}, []api.Term{c("Nat")}, api.Level{})
	isParts(t, eq(), []api.Term{s, variable(0)}, []api.Term{variable(1)}, param(0, 0))
	isParts(t, w(), []api.Term{s, arrow(variable(0), sort(param(1, 0)))}, nil, api.Level{Vars: []api.LVar{{Var: 0}, {Var: 1}}})
	isParts(t, sorted(), []api.Term{sort(api.Level{N: 1})}, []api.Term{set(), variable(0)}, api.Level{N: 2})
	for n := range 4 {
		d := changed(eq(), func(d *api.Decl) { d.Params = n })
		all := []api.Term{s, variable(0), variable(1)}
		isParts(t, d, all[:n], all[n:], param(0, 0))
	}
	d := changed(bot(), func(d *api.Decl) { d.Type, d.Params = pis(times(api.MaxHigh-1, set()), set()), api.MaxTele })
	isParts(t, d, times(api.MaxTele, set()), times(api.MaxHigh-1-api.MaxTele, set()), api.Level{})
}

func TestP601Ctor(t *testing.T) {
	n, a := c("Nat"), func(x string) api.Term { return c("Vec", c("A"), c(x)) }
	isCtor(t, nat(), 0, nil, nil, nil)
	isCtor(t, nat(), 1, []api.Term{n}, []int{0}, nil)
	isCtor(t, vec(), 0, nil, nil, []api.Term{c("zero")})
	isCtor(t, vec(), 1, []api.Term{n, in("A n", c("A")), in("A n x", a("n"))}, []int{2}, []api.Term{in("A n x xs", c("suc", c("n")))})
	isCtor(t, eq(), 0, nil, nil, []api.Term{variable(0)})
	isCtor(t, w(), 0, []api.Term{in("A B", c("A")), in("A B a", arrow(app(c("B"), c("a")), at("W", own(2), c("A"), c("B"))))}, []int{1}, nil)
	below := pi("y", c("A"), arrow(app(c("R"), c("y"), c("x")), c("Acc", c("A"), c("R"), c("y"))))
	isCtor(t, acc(), 0, []api.Term{in("A R", c("A")), in("A R x", below)}, []int{1}, []api.Term{variable(1)})
	tr := c("Tree")
	f := in("a n", arrow(n, arrow(c("Eq", n, c("n"), c("n")), tr)))
	isCtor(t, tree(), 1, []api.Term{tr, n, f, tr}, []int{0, 2, 3}, nil)
	isCtor(t, tree(), 2, []api.Term{n}, nil, nil)
	isCtor(t, sorted(), 0, []api.Term{set(), variable(0), c("S", variable(2), variable(1), variable(0))}, []int{2}, []api.Term{n, c("zero")})
	isCtor(t, sorted(), 1, nil, nil, []api.Term{c("Top"), c("tt")})
}

func TestP601BytesError(t *testing.T) {
	long := strings.Repeat("x", api.MaxName+1)
	ring := of(api.TPi, set(), set())
	ring.Kids[1] = ring
	for what, x := range map[string]struct {
		d api.Decl
		e api.Errno
	}{
		"nothing":              {api.Decl{}, api.ErrForm},
		"Kind 4":               {changed(vec(), func(d *api.Decl) { d.Kind = 4 }), api.ErrForm},
		"no name":              {changed(vec(), func(d *api.Decl) { d.Name = "" }), api.ErrForm},
		"a long name":          {changed(vec(), func(d *api.Decl) { d.Name = long }), api.ErrForm},
		"Levels -1":            {changed(vec(), func(d *api.Decl) { d.Levels = -1 }), api.ErrLevels},
		"Levels 9":             {changed(vec(), func(d *api.Decl) { d.Levels = api.MaxParams + 1 }), api.ErrLevels},
		"no type":              {changed(vec(), func(d *api.Decl) { d.Type = api.Term{} }), api.ErrForm},
		"a type without end":   {changed(vec(), func(d *api.Decl) { d.Type = ring }), api.ErrLong},
		"a type too high":      {changed(vec(), func(d *api.Decl) { d.Type = pis(times(api.MaxHigh, set()), set()) }), api.ErrLong},
		"Params -1":            {changed(vec(), func(d *api.Decl) { d.Params = -1 }), api.ErrLong},
		"Params 61":            {changed(vec(), func(d *api.Decl) { d.Params = api.MaxTele + 1 }), api.ErrLong},
		"Params far off":       {changed(vec(), func(d *api.Decl) { d.Params = math.MinInt }), api.ErrLong},
		"41 constructors":      {changed(vec(), func(d *api.Decl) { d.Ctors = times(api.MaxCtors+1, d.Ctors[0]) }), api.ErrLong},
		"no constructor name":  {changed(vec(), func(d *api.Decl) { d.Ctors[1].Name = "" }), api.ErrForm},
		"no constructor type":  {changed(vec(), func(d *api.Decl) { d.Ctors[1].Type = api.Term{} }), api.ErrForm},
		"a constructor's ring": {changed(vec(), func(d *api.Decl) { d.Ctors[1].Type = ring }), api.ErrLong},
		"an axiom's type":      {api.Decl{Kind: api.DAxiom, Name: "a"}, api.ErrForm},
		"a definition's value": {api.Decl{Kind: api.DDef, Name: "a", Type: set()}, api.ErrForm},
		"ahead of ErrData":     {changed(vec(), func(d *api.Decl) { d.Type, d.Ctors[1].Type = c("Nat"), api.Term{} }), api.ErrForm},
	} {
		if _, e := bytes.Decls([]api.Decl{x.d}); e != x.e {
			t.Fatalf("%s: bytes.Decls tells %v, not %v", what, e, x.e)
		}
		for _, k := range []int{0, 1, -1, 99} {
			refused(t, what, x.d, k, x.e, x.e, x.e, x.e)
		}
	}
}

func TestP601NoFamily(t *testing.T) {
	def := api.Decl{Kind: api.DDef, Name: "Nat", Type: sort(api.Level{N: 1}), Value: set()}
	lam := of(api.TLam, set(), set())
	for what, d := range map[string]api.Decl{
		"an axiom":                   {Kind: api.DAxiom, Name: "a", Type: set()},
		"an axiom like a family":     changed(nat(), func(d *api.Decl) { d.Kind = api.DAxiom }),
		"a definition":               def,
		"a definition like a family": changed(nat(), func(d *api.Decl) { d.Kind, d.Value = api.DDef, set() }),
		"one param too many":         changed(nat(), func(d *api.Decl) { d.Params = 1 }),
		"params and no TPi":          changed(bot(), func(d *api.Decl) { d.Params = api.MaxTele }),
		"two TPis, three params":     changed(vec(), func(d *api.Decl) { d.Params = 3 }),
		"no sort":                    changed(bot(), func(d *api.Decl) { d.Type = c("Nat") }),
		"no sort behind a TPi":       changed(vec(), func(d *api.Decl) { d.Type = pi("A", set(), c("A")) }),
		"a meta":                     changed(bot(), func(d *api.Decl) { d.Type = api.Term{Form: api.TMeta} }),
		"a sort by a step":           changed(bot(), func(d *api.Decl) { d.Type = app(lam, c("Nat")) }),
		"TPis by a step":             changed(bot(), func(d *api.Decl) { d.Type, d.Params = app(of(api.TLam, set(), arrow(set(), set())), c("Nat")), 1 }),
		"a λ":                        changed(bot(), func(d *api.Decl) { d.Type = lam }),
		"a sum":                      changed(bot(), func(d *api.Decl) { d.Type, d.Params = of(api.TSigma, set(), set()), 1 }),
	} {
		for _, k := range []int{0, 1, -1, 99} { // ahead of ErrArg, and of what is wrong with constructors
			refused(t, what, d, k, api.ErrData, api.ErrData, api.ErrData, api.ErrData)
		}
	}
}

func TestP601NoCtor(t *testing.T) {
	for _, d := range families() {
		for _, k := range []int{-1, len(d.Ctors), len(d.Ctors) + 1, math.MinInt, math.MaxInt} {
			refused(t, d.Name, d, k, api.OK, api.ErrArg, api.OK, api.ErrArg)
		}
	}
	d := changed(nat(), func(d *api.Decl) { d.Ctors[1].Type = set() })
	refused(t, "what others are like does not matter", d, 2, api.OK, api.ErrArg, api.ErrData, api.ErrArg)
	d = changed(nat(), func(d *api.Decl) { d.Ctors = times(api.MaxCtors, ctor("c", c("Nat"))) })
	refused(t, "the last one", d, api.MaxCtors-1, api.OK, api.OK, api.OK, api.OK)
}

// broken answers types that no constructor of Eq (params A and a, one index) may have.
func broken() map[string]api.Term {
	s, l := sort(param(0, 0)), own(1)
	over := func(t api.Term) api.Term { return pi("A", s, pi("a", c("A"), t)) }
	e := func(levels []api.Level, args ...api.Term) api.Term { return over(at("Eq", levels, args...)) }
	A, a := c("A"), c("a")
	return map[string]api.Term{
		"no TPi":                   at("Eq", l, c("Nat"), c("zero"), c("zero")),
		"one TPi":                  pi("A", s, at("Eq", l, c("A"), c("x"), c("x"))),
		"one TPi and free":         pi("A", s, at("Eq", l, variable(1), variable(0), variable(0))),
		"no argument":              e(l),
		"the params alone":         e(l, A, a),
		"one argument more":        e(l, A, a, a, a),
		"no levels":                e(nil, A, a, a),
		"two levels":               e(own(2), A, a, a),
		"another level":            e([]api.Level{param(1, 0)}, A, a, a),
		"a greater level":          e([]api.Level{param(0, 1)}, A, a, a),
		"the level 0":              e([]api.Level{{}}, A, a, a),
		"a level of two":           e([]api.Level{{Vars: []api.LVar{{Var: 0}, {Var: 1}}}}, A, a, a),
		"another name":             over(at("eq", l, A, a, a)),
		"the constructor":          over(at("refl", l, A, a, a)),
		"a sort":                   over(s),
		"a variable":               over(app(A, A, a, a)),
		"a meta":                   over(api.Term{Form: api.TMeta}),
		"a sum":                    over(of(api.TSigma, at("Eq", l, A, a, a), at("Eq", l, A, a, a))),
		"a part of a pair":         over(of(api.TFst, at("Eq", l, A, a, a))),
		"a step ahead":             over(app(of(api.TLam, s, at("Eq", l, A, a, a)), A)),
		"a λ":                      of(api.TLam, s, of(api.TLam, variable(0), at("Eq", l, variable(1), variable(0), variable(0)))),
		"params the other way":     e(l, a, A, a),
		"the first param twice":    e(l, A, A, a),
		"the second param twice":   e(l, a, a, a),
		"a constant as a param":    e(l, c("Nat"), a, a),
		"a param by a step":        e(l, A, app(of(api.TLam, A, variable(0)), a), a),
		"an argument as a param":   over(pi("b", A, at("Eq", l, A, c("b"), a))),
		"a free one as a param":    over(at("Eq", l, variable(7), a, a)),
		"another type of a param":  pi("A", set(), pi("a", A, at("Eq", l, A, a, a))),
		"a type by a step":         pi("A", s, pi("a", app(of(api.TLam, s, variable(0)), A), at("Eq", l, A, a, a))),
		"the second param's type":  pi("A", s, pi("a", s, at("Eq", l, A, a, a))),
		"params' types by another": pi("A", s, pi("a", variable(0), at("Eq", l, A, a, a))),
	}
}

func TestP601CtorForm(t *testing.T) {
	for what, x := range broken() {
		d := changed(eq(), func(d *api.Decl) { d.Ctors[0].Type = x })
		refused(t, what, d, 0, api.OK, api.ErrData, api.ErrData, api.ErrData)
		d.Ctors = []api.Ctor{eq().Ctors[0], ctor("broken", x), ctor("again", eq().Ctors[0].Type)}
		refused(t, what, d, 0, api.OK, api.OK, api.ErrData, api.OK)
		refused(t, what, d, 1, api.OK, api.ErrData, api.ErrData, api.ErrData)
		refused(t, what, d, 2, api.OK, api.OK, api.ErrData, api.OK)
	}
	d := changed(vec(), func(d *api.Decl) { d.Levels = 1 })
	refused(t, "a family of one level whose constructors have none", d, 0, api.OK, api.ErrData, api.ErrData, api.ErrData)
	d = changed(vec(), func(d *api.Decl) { d.Params = 0 })
	refused(t, "without params", d, 0, api.OK, api.OK, api.OK, api.OK)
	d = changed(vec(), func(d *api.Decl) { d.Params = 2 })
	refused(t, "two params, of which one is no variable", d, 1, api.OK, api.ErrData, api.ErrData, api.ErrData)
}

// The params' Hids do not matter, those of TApps neither.
func TestP601Hids(t *testing.T) {
	s := set()
	ty := func(hid bool, b api.Term) api.Term {
		x := pi("A", s, pi("f", arrow(c("A"), c("A")), b))
		x.Hid, x.Kids[1].Hid = hid, !hid
		return x
	}
	end := func(hid bool) api.Term {
		x := c("D", c("A"), c("f"), c("i"))
		x.Hid, x.Kids[0].Hid = hid, !hid
		return x
	}
	for _, hid := range []bool{true, false} {
		k := ty(hid, hidden(arrow(hidden(arrow(c("Nat"), end(hid))), end(!hid))))
		d := family("D", 0, 2, ty(!hid, hidden(arrow(c("I"), s))), ctor("k", k))
		isParts(t, d, []api.Term{s, arrow(variable(0), variable(0))}, []api.Term{c("I")}, api.Level{})
		isCtor(t, d, 0, []api.Term{in("A f", hidden(arrow(c("Nat"), end(hid))))}, []int{0}, []api.Term{c("i")})
		agrees(t, d)
	}
}

// allForms answers a type that has all forms as parts.
func allForms() api.Term {
	s := set()
	sum := of(api.TSigma, arrow(s, s), app(c("g"), variable(0)))
	pair := of(api.TPair, sum, of(api.TLam, s, of(api.TFst, variable(0))), api.Term{Form: api.TMeta, N: 3})
	return pi("x", s, app(c("f"), of(api.TLam, arrow(s, c("x")), app(variable(0), c("x"), of(api.TSnd, pair)))))
}

// spots answers t as often as it has parts, with change made at another one each time.
func spots(t api.Term, change func(api.Term) api.Term) []api.Term {
	var out []api.Term
	for at := range term.Size(t) {
		next := 0
		out = append(out, mapped(t, func(x api.Term) api.Term {
			next++
			if next-1 == at {
				return change(x)
			}
			return x
		}))
	}
	return out
}

// withParam answers a family with three params, the middle one's type a, for its constructor b.
func withParam(a, b api.Term) api.Decl {
	ty := func(x, end api.Term) api.Term { return pis([]api.Term{set(), x, variable(0)}, end) }
	k := arrow(c("D", variable(2), variable(1), variable(0), c("i")), c("D", variable(2), variable(1), variable(0), c("j")))
	return family("D", 0, 3, ty(a, arrow(c("I"), set())), ctor("k", ty(b, k)))
}

// Hids within the params' types do not matter either, wherever they stand; what is not a Hid does.
func TestP601HidsWithin(t *testing.T) {
	x := allForms()
	turned := spots(x, func(x api.Term) api.Term {
		x.Hid = !x.Hid
		return x
	})
	turned = append(turned, x, mapped(x, hidden))
	for _, a := range turned {
		for _, b := range turned {
			d := withParam(a, b)
			refused(t, "Hids alone", d, 0, api.OK, api.OK, api.OK, api.OK)
			agrees(t, d)
		}
	}
	for _, change := range changes() {
		for i, y := range spots(x, change) {
			if term.Check(y) != api.OK {
				continue
			}
			for _, z := range []api.Term{y, mapped(y, hidden)} {
				refused(t, i, withParam(x, z), 0, api.OK, api.ErrData, api.ErrData, api.ErrData)
				refused(t, i, withParam(z, x), 0, api.OK, api.ErrData, api.ErrData, api.ErrData)
			}
		}
	}
}

// changes answers what makes another part of a part, whatever that is.
func changes() []func(api.Term) api.Term {
	return []func(api.Term) api.Term{
		func(x api.Term) api.Term { return of(api.TFst, x) },
		func(x api.Term) api.Term { return c("other") },
		func(x api.Term) api.Term { return variable(9) },
		func(x api.Term) api.Term { return sort(param(0, 1)) },
		func(x api.Term) api.Term { return arrow(x, x) },
	}
}

func TestP601Recursive(t *testing.T) {
	l := own(1)
	d := func(x ...api.Term) api.Term { return at("D", l, x...) }
	A, B, i := c("A"), c("B"), c("i")
	n := c("Nat")
	long := pi("z", n, d(A, B, c("z")))
	for range api.MaxTele {
		long = arrow(n, long)
	}
	is := map[string]api.Term{
		"plain":                  d(A, B, i),
		"another index":          d(A, B, c("x")),
		"a param as an index":    d(A, B, A),
		"one z":                  arrow(n, d(A, B, i)),
		"many zs":                long,
		"an index of zs":         pi("z", n, pi("y", c("z"), d(A, B, c("F", c("z"), c("y"))))),
		"itself in zs":           arrow(d(A, B, i), d(A, B, i)),
		"itself in the index":    d(A, B, d(A, B, i)),
		"itself in zs otherwise": arrow(at("D", nil, B), d(A, B, i)),
	}
	not := map[string]api.Term{
		"another name":          at("E", l, A, B, i),
		"the name without more": d(),
		"no index":              d(A, B),
		"one argument more":     d(A, B, i, i),
		"other levels":          at("D", []api.Level{{}}, A, B, i),
		"a greater level":       at("D", []api.Level{param(0, 1)}, A, B, i),
		"no levels":             at("D", nil, A, B, i),
		"more levels":           at("D", own(2), A, B, i),
		"params swapped":        d(B, A, i),
		"a constant param":      d(A, n, i),
		"a z as a param":        pi("z", n, d(A, c("z"), i)),
		"an argument as param":  d(A, c("x"), i),
		"behind a step":         app(of(api.TLam, n, d(A, B, i)), n),
		"in a list":             c("List", d(A, B, i)),
		"in zs alone":           arrow(d(A, B, i), n),
		"in a sum":              of(api.TSigma, d(A, B, i), d(A, B, i)),
		"in a λ":                of(api.TLam, n, d(A, B, i)),
		"in a projection":       of(api.TFst, d(A, B, i)),
		"a variable":            A,
		"a sort":                set(),
	}
	over := func(t api.Term) api.Term { return pi("A", set(), pi("B", set(), t)) }
	fam := family("D", 1, 2, over(arrow(n, set())))
	for what, x := range is {
		recursive(t, what, fam, over, x, true)
	}
	for what, x := range not {
		recursive(t, what, fam, over, x, false)
	}
}

// recursive fails, if Ctor does not tell that arguments of the type x, which may speak of A, B and of an argument x ahead of it, are recursive (or not).
func recursive(t *testing.T, what string, d api.Decl, over func(api.Term) api.Term, x api.Term, want bool) {
	t.Helper()
	one := pi("x", c("A"), pi("y", x, pi("z", x, at("D", own(1), c("A"), c("B"), c("x")))))
	d.Ctors = []api.Ctor{ctor("k", over(one))}
	_, rec, _, e := elim.Ctor(d, 0)
	places := []int{1, 2}
	if !want {
		places = nil
	}
	if e != api.OK || !slices.Equal(rec, places) {
		t.Errorf("%s: %v, %v", what, rec, e)
	}
	agrees(t, d)
}

func isType(t *testing.T, d api.Decl, want api.Term) {
	t.Helper()
	if got, e := elim.Type(d); e != api.OK || !term.Same(got, want) {
		t.Errorf("Type of %s: %+v, %v", d.Name, got, e)
	}
}

func isMethod(t *testing.T, d api.Decl, k int, want api.Term) {
	t.Helper()
	if got, e := elim.Method(d, k); e != api.OK || !term.Same(got, want) {
		t.Errorf("Method %d of %s: %+v, %v", k, d.Name, got, e)
	}
}

func TestP602Nat(t *testing.T) {
	n, P := c("Nat"), c("P")
	zero := app(P, c("zero"))
	suc := pi("n", n, arrow(app(P, c("n")), app(P, c("suc", c("n")))))
	isMethod(t, nat(), 0, in("P", zero))
	isMethod(t, nat(), 1, in("P", suc))
	isType(t, nat(), pi("P", arrow(n, sort(param(0, 0))), arrow(zero, arrow(suc, pi("x", n, app(P, c("x")))))))
}

func TestP602NoCtor(t *testing.T) {
	isType(t, bot(), pi("P", arrow(c("Bot"), sort(param(0, 0))), pi("x", c("Bot"), app(c("P"), c("x")))))
}

func TestP602Vec(t *testing.T) {
	n, A, P := c("Nat"), c("A"), c("P")
	one := app(P, c("zero"), c("nil", A))
	two := pi("n", n, pi("x", A, pi("xs", c("Vec", A, c("n")), arrow(app(P, c("n"), c("xs")), app(P, c("suc", c("n")), c("cons", A, c("n"), c("x"), c("xs")))))))
	isMethod(t, vec(), 0, in("A P", one))
	isMethod(t, vec(), 1, in("A P", two))
	motive := pi("n", n, arrow(c("Vec", A, c("n")), sort(param(0, 0))))
	isType(t, vec(), pi("A", set(), pi("P", motive, arrow(one, arrow(two, pi("n", n, pi("x", c("Vec", A, c("n")), app(P, c("n"), c("x")))))))))
}

func TestP602Eq(t *testing.T) {
	A, a, P, l := c("A"), c("a"), c("P"), own(1)
	refl := app(P, a, at("refl", l, A, a))
	isMethod(t, eq(), 0, in("A a P", refl))
	e := at("Eq", l, A, a, c("b"))
	motive := pi("b", A, arrow(e, sort(param(1, 0))))
	isType(t, eq(), pi("A", sort(param(0, 0)), pi("a", A, pi("P", motive, arrow(refl, pi("b", A, pi("x", e, app(P, c("b"), c("x")))))))))
}

func TestP602Functions(t *testing.T) {
	A, B, P, l := c("A"), c("B"), c("P"), own(2)
	tr := at("W", l, A, B)
	sup := pi("a", A, pi("f", arrow(app(B, c("a")), tr), arrow(pi("b", app(B, c("a")), app(P, app(c("f"), c("b")))), app(P, at("sup", l, A, B, c("a"), c("f"))))))
	isMethod(t, w(), 0, in("A B P", sup))
	isType(t, w(), pi("A", sort(param(0, 0)), pi("B", arrow(A, sort(param(1, 0))), pi("P", arrow(tr, sort(param(2, 0))), arrow(sup, pi("x", tr, app(P, c("x"))))))))
	R := c("R")
	below := pi("y", A, arrow(app(R, c("y"), c("x")), c("Acc", A, R, c("y"))))
	hyp := pi("y", A, pi("r", app(R, c("y"), c("x")), app(P, c("y"), app(c("h"), c("y"), c("r")))))
	isMethod(t, acc(), 0, in("A R P", pi("x", A, pi("h", below, arrow(hyp, app(P, c("x"), c("acc", A, R, c("x"), c("h"))))))))
}

// The hypotheses stand behind all arguments, in the arguments' order.
func TestP602Hypotheses(t *testing.T) {
	n, P, tr := c("Nat"), c("P"), c("Tree")
	e := c("Eq", n, c("n"), c("n"))
	third := pi("i", n, pi("e", e, app(P, app(c("f"), c("i"), c("e")))))
	hyps := arrow(app(P, c("l")), arrow(third, arrow(app(P, c("r")), app(P, c("node", c("l"), c("n"), c("f"), c("r"))))))
	node := pi("l", tr, pi("n", n, pi("f", arrow(n, arrow(e, tr)), pi("r", tr, hyps))))
	isMethod(t, tree(), 1, in("P", node))
	isMethod(t, tree(), 2, in("P", pi("n", n, app(P, c("box", c("n"))))))
	isType(t, tree(), pi("P", arrow(tr, sort(param(0, 0))), arrow(app(P, c("leaf")), arrow(node, arrow(pi("n", n, app(P, c("box", c("n")))), pi("x", tr, app(P, c("x"))))))))
}

func TestP602Levels(t *testing.T) {
	for n := range api.MaxParams + 1 {
		d := at("D", own(n))
		fam := family("D", n, 0, set(), ctor("k", arrow(d, d)))
		P := c("P")
		k := pi("d", d, arrow(app(P, c("d")), app(P, at("k", own(n), c("d")))))
		isType(t, fam, pi("P", arrow(d, sort(param(n, 0))), arrow(k, pi("x", d, app(P, c("x"))))))
		agrees(t, fam)
	}
}

func TestP602NoHid(t *testing.T) {
	turn := func(x api.Term) api.Term {
		x.Hid = x.Form == api.TPi || x.Form == api.TApp
		return x
	}
	d := tree()
	node := mapped(pi("n", c("Nat"), arrow(c("Tree"), arrow(arrow(c("Nat"), c("Tree")), c("Tree")))), turn)
	d.Ctors[1].Type = node
	got, _ := elim.Method(d, 1)
	domain := hidden(arrow(c("Nat"), c("Tree"))) // as it stands, for it is a type that was read off
	P := c("P")
	hyp := pi("i", c("Nat"), app(P, app(c("f"), c("i"))))
	want := in("P", pi("n", c("Nat"), pi("t", c("Tree"), pi("f", domain, arrow(app(P, c("t")), arrow(hyp, app(P, c("node", c("n"), c("t"), c("f")))))))))
	if !term.Same(got, want) {
		t.Errorf("%+v", got)
	}
	for _, d := range families() {
		x := onlySpine(d)
		ty, e := elim.Type(x)
		want, _ := elim.Type(d)
		if e != api.OK || !term.Same(ty, want) {
			t.Errorf("%s: %+v, %v", d.Name, ty, e)
		}
	}
}

// onlySpine answers d with Hid turned at all TPis and TApps that belong to its own telescopes and results.
func onlySpine(d api.Decl) api.Decl {
	var outer func(t api.Term) api.Term
	outer = func(t api.Term) api.Term {
		switch t.Form {
		case api.TPi:
			return api.Term{Form: api.TPi, Hid: !t.Hid, Kids: []api.Term{t.Kids[0], outer(t.Kids[1])}}
		case api.TApp:
			return api.Term{Form: api.TApp, Hid: !t.Hid, Kids: []api.Term{outer(t.Kids[0]), t.Kids[1]}}
		}
		return t
	}
	return changed(d, func(d *api.Decl) {
		d.Type = outer(d.Type)
		for i, k := range d.Ctors {
			d.Ctors[i].Type = outer(k.Type)
		}
	})
}

// A term that has become too great is told behind what is wrong with a constructor, be it a later one.
func TestP602Order(t *testing.T) {
	big := ctor("big", arrow(arrow(wide(api.MaxTerm/2+1, set()), c("D")), c("D")))
	long := family("D", 0, 0, set(), big)
	refused(t, "too long", long, 0, api.OK, api.OK, api.ErrLong, api.ErrLong)
	long.Ctors = append(long.Ctors, ctor("k", c("D")))
	refused(t, "the other one is not", long, 1, api.OK, api.OK, api.ErrLong, api.OK)
	long.Ctors = append(long.Ctors, ctor("k", c("E")))
	refused(t, "and one that is none", long, 0, api.OK, api.OK, api.ErrData, api.ErrLong)
	refused(t, "and one that is none", long, 2, api.OK, api.ErrData, api.ErrData, api.ErrData)
	refused(t, "and one that is not there", long, 3, api.OK, api.ErrArg, api.ErrData, api.ErrArg)
}

// Families around those whose eliminators are just too great.
func TestP602ErrLong(t *testing.T) {
	edge(t, "how high, by arguments", 163, 168, func(n int) api.Decl {
		return family("D", 0, 0, set(), ctor("k", pis(times(n, c("D")), c("D"))))
	})
	edge(t, "how high, by indices", 246, 250, func(n int) api.Decl {
		return family("D", 0, 0, pis(times(n, set()), set()))
	})
	edge(t, "how high, by zs", 245, 251, func(n int) api.Decl {
		return family("D", 0, 0, set(), ctor("k", arrow(pis(times(n, set()), c("D")), c("D"))))
	})
	edge(t, "how high, by a domain", api.MaxHigh-5, api.MaxHigh-1, func(n int) api.Decl {
		return family("D", 0, 0, set(), ctor("k", arrow(high(n, set()), c("D"))))
	})
	edge(t, "how high, by a result", api.MaxHigh-6, api.MaxHigh-1, func(n int) api.Decl {
		return family("D", 0, 0, arrow(set(), set()), ctor("k", c("D", high(n, set()))))
	})
	edge(t, "how long, by zs", 4991, 4998, func(n int) api.Decl {
		return family("D", 0, 0, set(), ctor("k", arrow(arrow(wide(2*n+1, set()), c("D")), c("D"))))
	})
	edge(t, "how long, by an index", 4994, 4998, func(n int) api.Decl {
		return family("D", 0, 0, arrow(wide(2*n+1, set()), set()))
	})
	edge(t, "how long, by a param", 9991, 9995, func(n int) api.Decl {
		return family("D", 0, 1, arrow(wide(2*n+1, set()), set()))
	})
	edge(t, "how many", 20, 23, func(n int) api.Decl {
		return family("D", 0, 0, set(), times(n, ctor("k", arrow(wide(901, set()), arrow(arrow(c("Nat"), c("D")), c("D")))))...)
	})
}

// edge fails, if one of these families is told otherwise than by the second reading, or not both an eliminator and ErrLong are told.
func edge(t *testing.T, what string, from, to int, make func(n int) api.Decl) {
	t.Helper()
	told := map[api.Errno]int{}
	for n := from; n <= to; n++ {
		d := make(n)
		agrees(t, d)
		_, e := elim.Type(d)
		told[e]++
	}
	if len(told) != 2 || told[api.OK] == 0 || told[api.ErrLong] == 0 {
		t.Errorf("%s: %v", what, told)
	}
}

// Telescopes longer than those of package tele: there is no limit but that of terms.
func TestP602ManyOfAll(t *testing.T) {
	params := times(api.MaxTele, set())
	var mine []api.Term
	for i := range params {
		mine = append(mine, variable(100+api.MaxTele-1-i))
	}
	k := pis(params, pis(times(100, c("Nat")), c("D", append(mine, times(80, c("i"))...)...)))
	d := family("D", 0, api.MaxTele, pis(params, pis(times(80, c("I")), set())), times(20, ctor("k", k))...)
	agrees(t, d)
	if _, e := elim.Type(d); e != api.OK {
		t.Errorf("%v", e)
	}
}

// mapped answers t, as new memory, with each part as change tells it.
func mapped(t api.Term, change func(api.Term) api.Term) api.Term {
	t.Kids = slices.Clone(t.Kids)
	for i, k := range t.Kids {
		t.Kids[i] = mapped(k, change)
	}
	t.Levels = slices.Clone(t.Levels)
	for i, l := range t.Levels {
		t.Levels[i].Vars = slices.Clone(l.Vars)
	}
	return change(t)
}

func mappedDecl(d api.Decl, change func(api.Term) api.Term) api.Decl {
	return changed(d, func(d *api.Decl) {
		d.Type = mapped(d.Type, change)
		for i, k := range d.Ctors {
			d.Ctors[i].Type = mapped(k.Type, change)
		}
	})
}

// Fields that a form, or a Kind, does not have are not looked at, and are zero in what is answered.
func TestP603OtherFields(t *testing.T) {
	full := func(x api.Term) api.Term {
		y := api.Term{Form: x.Form, N: 5, Hid: true, Name: "n", Levels: []api.Level{{N: -3}}, Kids: x.Kids}
		switch x.Form {
		case api.TVar:
			y.N = x.N
		case api.TSort:
			y.Levels = x.Levels
		case api.TConst:
			y.Name, y.Levels = x.Name, x.Levels
		case api.TPi, api.TLam, api.TApp:
			y.Hid = x.Hid
		}
		return y
	}
	for _, d := range families() {
		x := mappedDecl(d, full)
		x.Value = of(77)
		if !reflect.DeepEqual(all(x), all(d)) {
			t.Errorf("%s: %+v", d.Name, all(x))
		}
		for _, y := range all(x) {
			mapped(y, func(z api.Term) api.Term {
				if !bare(z) {
					t.Errorf("%s: %+v", d.Name, z)
				}
				return z
			})
		}
	}
}

func bare(t api.Term) bool {
	hid := t.Form == api.TPi || t.Form == api.TLam || t.Form == api.TApp
	levels := t.Form == api.TConst || t.Form == api.TSort
	return (t.N == 0 || t.Form == api.TVar) && (hid || !t.Hid) && (t.Name == "") == (t.Form != api.TConst) && (levels || t.Levels == nil)
}

// all answers all terms that the four calls tell of d (the sort as a term).
func all(d api.Decl) []api.Term {
	params, indices, level, _ := elim.Parts(d)
	ty, _ := elim.Type(d)
	out := append(append(params, indices...), sort(level), ty)
	for k := range d.Ctors {
		args, _, result, _ := elim.Ctor(d, k)
		m, _ := elim.Method(d, k)
		out = append(append(append(out, args...), result...), m)
	}
	return out
}

// spoil writes over each list of t.
func spoil(t api.Term) {
	for i, l := range t.Levels {
		for j := range l.Vars {
			l.Vars[j] = api.LVar{Var: -9, Add: -9}
		}
		_ = append(l.Vars, api.LVar{Var: -9})
		t.Levels[i] = api.Level{N: -9}
	}
	for i, k := range t.Kids {
		spoil(k)
		t.Kids[i] = api.Term{Form: -9}
	}
}

func TestP603NewMemory(t *testing.T) {
	for i, d := range families() {
		want := all(d)
		got := all(d)
		if !reflect.DeepEqual(d, families()[i]) {
			t.Errorf("%s was changed", d.Name)
		}
		for _, x := range got {
			spoil(x)
		}
		if !reflect.DeepEqual(d, families()[i]) {
			t.Errorf("%s: an answer shares memory with what was handed in", d.Name)
		}
		spoil(d.Type)
		for k := range d.Ctors {
			spoil(d.Ctors[k].Type)
			d.Ctors[k] = api.Ctor{}
		}
		if !reflect.DeepEqual(want, all(families()[i])) {
			t.Errorf("%s: what was handed in is kept", d.Name)
		}
	}
}

// Each list of an answer is its own: one is spoilt, the others stay.
func TestP603ListsOfTheirOwn(t *testing.T) {
	x := sort(param(0, 1)) // one list in many places
	tr := at("D", own(1), variable(0), x)
	k := of(api.TPi, x, of(api.TPi, x, of(api.TPi, of(api.TPi, x, at("D", own(1), variable(2), x)), at("D", own(1), variable(2), x))))
	d := family("D", 1, 1, of(api.TPi, x, of(api.TPi, x, x)), ctor("k", k), ctor("j", of(api.TPi, x, tr)))
	seen := map[any]int{} // by the address of each item
	var walk func(api.Term)
	walk = func(z api.Term) {
		for i := range z.Kids {
			seen[&z.Kids[i]]++
			walk(z.Kids[i])
		}
		for i, l := range z.Levels {
			seen[&z.Levels[i]]++
			for j := range l.Vars {
				seen[&l.Vars[j]]++
			}
		}
	}
	for _, y := range all(d) {
		walk(y)
	}
	for x, n := range seen {
		if n > 1 {
			t.Fatalf("a list is shared: %+v", x)
		}
	}
	if len(seen) < 100 {
		t.Fatalf("too little was looked at: %d", len(seen))
	}
}

// Lists that are handed in have spare room, in which nothing is written; those that are answered end in none that is another's.
func TestP603SpareRoom(t *testing.T) {
	d := vec()
	room := make([]api.Ctor, 2, 8)
	copy(room, d.Ctors)
	d.Ctors = room
	kids := make([]api.Term, 2, 6)
	copy(kids, d.Type.Kids)
	d.Type.Kids = kids
	all(d)
	if !reflect.DeepEqual(room[2:8], make([]api.Ctor, 6)) || !reflect.DeepEqual(kids[2:6], make([]api.Term, 4)) {
		t.Errorf("%+v, %+v", room[:8], kids[:6])
	}
	params, indices, _, _ := elim.Parts(d)
	_ = append(params, api.Term{Form: -9})
	args, rec, result, _ := elim.Ctor(d, 1)
	_ = append(args[:1], api.Term{Form: -9})
	_ = append(rec, -9)
	if !sameAll(indices, []api.Term{c("Nat")}) || len(result) != 1 || !term.Same(result[0], c("suc", variable(2))) {
		t.Errorf("%+v, %+v", indices, result)
	}
}

// What a call answers hangs on its arguments alone.
func TestP603SameAgain(t *testing.T) {
	for _, d := range families() {
		if first := all(d); !reflect.DeepEqual(first, all(d)) {
			t.Errorf("%s: told otherwise", d.Name)
		}
	}
}

// named is a binder by its name, and its type, in which those ahead of it are constants.
type named struct {
	name string
	ty   api.Term
}

// opened reads off the outermost n TPis of t (below 0: all), which are named by new names.
func opened(t api.Term, name string, n int) ([]named, api.Term) {
	var l []named
	for i := 0; i != n && t.Form == api.TPi; i++ {
		x := fmt.Sprint("#", name, i)
		l = append(l, named{x, t.Kids[0]})
		t, _ = term.Subst(t.Kids[1], 0, c(x))
	}
	return l, t
}

func closed(l []named, t api.Term) api.Term {
	for _, x := range slices.Backward(l) {
		t = pi(x.name, x.ty, t)
	}
	return t
}

func inScope(t api.Term, l ...named) api.Term {
	for _, x := range l {
		t = bound(t, x.name, 0)
	}
	return t
}

func names(l []named) []api.Term {
	var out []api.Term
	for _, x := range l {
		out = append(out, c(x.name))
	}
	return out
}

// second is a second reading of a family, by names.
type second struct {
	d               api.Decl
	params, indices []named
}

func read(d api.Decl) second {
	params, rest := opened(d.Type, "p", d.Params)
	indices, _ := opened(rest, "i", -1)
	return second{d, params, indices}
}

// idx answers the idx of t, if it is D params idx.
func (s second) idx(t api.Term) ([]api.Term, bool) {
	head, args, _ := tele.Spine(t)
	n := len(s.params)
	ok := term.Same(head, at(s.d.Name, own(s.d.Levels))) && len(args) == n+len(s.indices) && sameAll(args[:n], names(s.params))
	if !ok {
		return nil, false
	}
	return args[n:], true
}

func (s second) ctor(k int) (args []named, result []api.Term) {
	rest := s.d.Ctors[k].Type
	for _, p := range s.params {
		rest, _ = term.Subst(rest.Kids[1], 0, c(p.name))
	}
	args, end := opened(rest, "a", -1)
	result, _ = s.idx(end)
	return args, result
}

// hyps answers the hypotheses of args, by their places.
func (s second) hyps(args []named) (rec []int, hyps []api.Term) {
	for i, a := range args {
		zs, end := opened(a.ty, "z", -1)
		if idx, ok := s.idx(end); ok {
			rec = append(rec, i)
			hyps = append(hyps, closed(zs, app(app(c("#P"), idx...), app(c(a.name), names(zs)...))))
		}
	}
	return rec, hyps
}

func (s second) method(k int) api.Term {
	args, result := s.ctor(k)
	_, hyps := s.hyps(args)
	built := at(s.d.Ctors[k].Name, own(s.d.Levels), append(names(s.params), names(args)...)...)
	t := app(app(c("#P"), result...), built)
	for _, h := range slices.Backward(hyps) {
		t = arrow(h, t)
	}
	return closed(args, t)
}

func (s second) elim() api.Term {
	whole := at(s.d.Name, own(s.d.Levels), append(names(s.params), names(s.indices)...)...)
	t := closed(s.indices, pi("#x", whole, app(app(c("#P"), names(s.indices)...), c("#x"))))
	for k := range slices.Backward(s.d.Ctors) {
		t = arrow(s.method(k), t)
	}
	motive := closed(s.indices, arrow(whole, sort(param(s.d.Levels, 0))))
	return closed(s.params, pi("#P", motive, t))
}

// agrees fails, if the four calls tell otherwise of a family, all of whose constructors are such, than the second reading.
func agrees(t *testing.T, d api.Decl) {
	t.Helper()
	s := read(d)
	var params, indices []api.Term
	for i, p := range s.params {
		params = append(params, inScope(p.ty, s.params[:i]...))
	}
	for i, x := range s.indices {
		indices = append(indices, inScope(inScope(x.ty, s.params...), s.indices[:i]...))
	}
	_, _, end := pisOf(d.Type)
	isParts(t, d, params, indices, end.Levels[0])
	isTerm(t, "Type", d, s.elim(), func() (api.Term, api.Errno) { return elim.Type(d) })
	motive := named{name: "#P"}
	for k := range d.Ctors {
		named, result := s.ctor(k)
		var args, results []api.Term
		for i, a := range named {
			args = append(args, inScope(inScope(a.ty, s.params...), named[:i]...))
		}
		for _, x := range result {
			results = append(results, inScope(inScope(x, s.params...), named...))
		}
		rec, _ := s.hyps(named)
		isCtor(t, d, k, args, rec, results)
		isTerm(t, "Method", d, inScope(inScope(s.method(k), s.params...), motive), func() (api.Term, api.Errno) { return elim.Method(d, k) })
	}
}

// pisOf answers all TPis of t, and what is within.
func pisOf(t api.Term) ([]api.Term, []bool, api.Term) {
	n := 0
	for x := t; x.Form == api.TPi; x = x.Kids[1] {
		n++
	}
	l, hid, end, _ := tele.Split(t, n)
	return l, hid, end
}

// isTerm fails, if call does not tell want; or ErrLong, where that is too great.
func isTerm(t *testing.T, what string, d api.Decl, want api.Term, call func() (api.Term, api.Errno)) {
	t.Helper()
	got, e := call()
	if term.Check(want) != api.OK {
		if e != api.ErrLong || !reflect.DeepEqual(got, api.Term{}) {
			t.Errorf("%s of %s: %v, not ErrLong", what, d.Name, e)
		}
		return
	}
	if e != api.OK || !term.Same(got, want) {
		t.Errorf("%s of %+v: %+v, %v, not %+v", what, d, got, e, want)
	}
}
