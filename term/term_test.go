package term_test

import (
	"fmt"
	"math"
	"math/rand"
	"reflect"
	"strings"
	"testing"

	"telamon/api"
	"telamon/term"
)

func variable(n int) api.Term { return api.Term{Form: api.TVar, N: n} }

func meta(n int) api.Term { return api.Term{Form: api.TMeta, N: n} }

func sort(l ...api.Level) api.Term { return api.Term{Form: api.TSort, Levels: l} }

func constant(name string, l ...api.Level) api.Term {
	return api.Term{Form: api.TConst, Name: name, Levels: l}
}

func of(form int, kids ...api.Term) api.Term { return api.Term{Form: form, Kids: kids} }

func hidden(t api.Term) api.Term {
	t.Hid = true
	return t
}

func param(n, add int) api.Level { return api.Level{Vars: []api.LVar{{Var: n, Add: add}}} }

func number(n int) api.Level { return api.Level{N: n} }

var set = sort(number(0))

// high is a term of that height, with t at its bottom.
func high(n int, t api.Term) api.Term {
	for range n - 1 {
		t = of(api.TFst, t)
	}
	return t
}

// wide is a term of that many parts (an odd number), with t in each leaf.
func wide(parts int, t api.Term) api.Term {
	if parts == 1 {
		return t
	}
	left := (parts-1)/2 | 1
	return of(api.TApp, wide(left, t), wide(parts-1-left, t))
}

// shown writes a term, under outside binders of which it knows nothing and inside binders of its own, as a text in which a bound variable is called by its binder, and a free one as free tells.
func shown(t api.Term, outside, inside int, free func(index, binders int) string) string {
	if t.Form == api.TVar && t.N < inside {
		return fmt.Sprint("b", outside+inside-1-t.N)
	}
	if t.Form == api.TVar {
		return free(t.N-inside, inside)
	}
	var b strings.Builder
	fmt.Fprint(&b, "(", t.Form)
	switch t.Form {
	case api.TMeta:
		fmt.Fprint(&b, " ", t.N)
	case api.TPi, api.TLam, api.TApp:
		fmt.Fprint(&b, " ", t.Hid)
	case api.TConst:
		fmt.Fprint(&b, " ", t.Name, len(t.Levels), levels(t))
	case api.TSort:
		fmt.Fprint(&b, " ", levels(t))
	}
	for i, k := range t.Kids {
		n := inside
		if i == 1 && (t.Form == api.TPi || t.Form == api.TLam || t.Form == api.TSigma) {
			n++
		}
		b.WriteString(" " + shown(k, outside, n, free))
	}
	return b.String() + ")"
}

func levels(t api.Term) string {
	s := ""
	for _, l := range t.Levels {
		s += fmt.Sprint(l.N, len(l.Vars), append([]api.LVar{}, l.Vars...))
	}
	return s
}

func plain(index, _ int) string { return fmt.Sprint("f", index) }

func show(t api.Term) string { return shown(t, 0, 0, plain) }

// small answers all terms of few parts over some leaves.
func small(parts int) []api.Term {
	by := [][]api.Term{nil, {variable(0), variable(1), variable(2), set, constant("c", param(0, 0))}}
	for n := 2; n <= parts; n++ {
		var l []api.Term
		for _, k := range by[n-1] {
			l = append(l, of(api.TFst, k))
		}
		for left := 1; left < n-1; left++ {
			for _, a := range by[left] {
				for _, b := range by[n-1-left] {
					l = append(l, of(api.TPi, a, b), hidden(of(api.TLam, a, b)), of(api.TApp, a, b), of(api.TSigma, a, b))
				}
			}
		}
		by = append(by, l)
	}
	var all []api.Term
	for _, l := range by {
		all = append(all, l...)
	}
	return all
}

// random answers a term of all forms, with about that many parts.
func random(r *rand.Rand, parts int) api.Term {
	if parts <= 1 {
		leaves := []api.Term{variable(r.Intn(6)), variable(r.Intn(6)), meta(r.Intn(3)), set, sort(param(1, 2)), constant("c"), constant("d", param(0, 1), number(4))}
		return leaves[r.Intn(len(leaves))]
	}
	half := parts / 2
	switch r.Intn(7) {
	case 0:
		return of(api.TSnd, random(r, parts-1))
	case 1:
		return of(api.TPair, of(api.TSigma, random(r, parts/4), random(r, parts/4)), random(r, parts/4), random(r, parts/4))
	case 2:
		return of(api.TApp, random(r, half), random(r, half))
	case 3:
		return hidden(of(api.TApp, random(r, half), random(r, half)))
	case 4:
		return of(api.TSigma, random(r, half), random(r, half))
	case 5:
		return hidden(of(api.TPi, random(r, half), random(r, half)))
	}
	return of(api.TLam, random(r, half), random(r, half))
}

func terms() []api.Term {
	r := rand.New(rand.NewSource(2))
	l := small(4)
	for range 400 {
		l = append(l, random(r, 1+r.Intn(60)))
	}
	return l
}

func many(n int) []api.LVar {
	var l []api.LVar
	for i := range n {
		l = append(l, api.LVar{Var: i})
	}
	return l
}

// endless answers terms whose lists of kids hold themselves.
func endless() []api.Term {
	one := of(api.TFst, set)
	one.Kids[0] = one
	two := of(api.TApp, set, set)
	two.Kids[0], two.Kids[1] = two, two
	none := api.Term{Form: 77, Kids: make([]api.Term, 100000)}
	for i := range none.Kids {
		none.Kids[i] = none
	}
	shared := set
	for range 400 {
		shared = of(api.TApp, shared, shared)
	}
	return []api.Term{one, two, none, shared}
}

func TestP201Right(t *testing.T) {
	long := strings.Repeat("x", api.MaxName)
	for i, x := range []api.Term{
		variable(0), variable(1 << 30), meta(0), meta(1 << 30), set,
		sort(number(api.MaxLevel)), sort(param(api.MaxLevel, api.MaxLevel)),
		sort(api.Level{N: 3, Vars: []api.LVar{{Var: 1, Add: 2}, {Var: 4}}}), sort(api.Level{Vars: many(64)}), sort(api.Level{Vars: []api.LVar{}}),
		of(api.TPi, set, variable(0)), of(api.TLam, set, variable(0)), of(api.TApp, set, set), of(api.TSigma, set, set),
		of(api.TPair, of(api.TSigma, set, set), set, set), of(api.TFst, set), of(api.TSnd, set),
		constant("c"), constant(long), constant("c", number(1), param(0, 1)), constant("\xff"), constant("c", make([]api.Level, 3000)...),
		high(api.MaxHigh, set), wide(api.MaxTerm-1, set), of(api.TFst, wide(api.MaxTerm-1, set)),
		{Form: api.TVar, Hid: true, Name: "x", Levels: []api.Level{{N: -1}}, Kids: []api.Term{}},
		{Form: api.TSort, N: -5, Hid: true, Name: long + "x", Levels: []api.Level{{}}},
		{Form: api.TConst, N: math.MinInt, Hid: true, Name: "c"},
		{Form: api.TApp, N: math.MaxInt, Name: long + "x", Levels: []api.Level{{N: -1}}, Kids: []api.Term{set, set}},
		{Form: api.TSigma, N: -1, Hid: true, Kids: []api.Term{set, set}},
	} {
		if e := term.Check(x); e != api.OK {
			t.Errorf("%d: %v", i, e)
		}
	}
}

func TestP201Wrong(t *testing.T) {
	bad := []api.Term{
		{}, {Form: -1}, {Form: 12}, {Form: math.MaxInt}, {Form: math.MinInt},
		variable(-1), variable(1<<30 + 1), variable(math.MinInt), variable(math.MaxInt), meta(-1), meta(1<<30 + 1),
		sort(), sort(number(0), number(0)), sort(number(-1)), sort(number(api.MaxLevel + 1)),
		sort(param(-1, 0)), sort(param(0, -1)), sort(param(api.MaxLevel+1, 0)), sort(param(0, api.MaxLevel+1)), sort(api.Level{Vars: many(65)}),
		sort(api.Level{N: 2, Vars: []api.LVar{{Var: 0, Add: 2}}}), sort(api.Level{Vars: []api.LVar{{Var: 1}, {Var: 0}}}), sort(api.Level{Vars: []api.LVar{{Var: 1}, {Var: 1}}}),
		constant(""), constant(strings.Repeat("x", api.MaxName+1)), constant("c", number(-1)), constant("c", number(0), number(0), api.Level{N: 1, Vars: []api.LVar{{Var: 0, Add: 1}}}),
		of(api.TPair, set, set, set), of(api.TPair, of(api.TPi, set, set), set, set),
	}
	for form, right := range map[int]int{api.TVar: 0, api.TSort: 0, api.TPi: 2, api.TLam: 2, api.TApp: 2, api.TSigma: 2, api.TPair: 3, api.TFst: 1, api.TSnd: 1, api.TConst: 0, api.TMeta: 0, 12: -1, 0: -1} {
		sigma := of(api.TSigma, set, set)
		for n := range 6 {
			x := api.Term{Form: form, Name: "c", Levels: []api.Level{{}}, Kids: []api.Term{sigma, sigma, sigma, sigma, sigma, sigma}[:n]}
			if n != right {
				bad = append(bad, x)
			} else if e := term.Check(x); e != api.OK {
				t.Errorf("form %d with %d kids: %v", form, n, e)
			}
		}
	}
	for i, x := range bad {
		for _, y := range []api.Term{x, of(api.TFst, x), of(api.TLam, set, x), of(api.TApp, x, set), of(api.TPair, of(api.TSigma, set, set), set, x), high(api.MaxHigh-2, x)} {
			if e := term.Check(y); e != api.ErrForm {
				t.Errorf("%d: %v", i, e)
			}
		}
	}
}

func TestP201Long(t *testing.T) {
	l := append(endless(),
		high(api.MaxHigh+1, set), high(api.MaxHigh+1, api.Term{}), of(api.TApp, set, high(api.MaxHigh, set)),
		wide(api.MaxTerm+1, set), of(api.TApp, variable(-1), wide(api.MaxTerm-1, set)), of(api.TFst, of(api.TFst, wide(api.MaxTerm-1, set))),
		api.Term{Form: 99, Kids: make([]api.Term, api.MaxTerm)}, api.Term{Form: api.TVar, N: -1, Kids: make([]api.Term, api.MaxTerm)}, of(api.TPi, make([]api.Term, api.MaxTerm)...))
	for i, x := range l {
		if e := term.Check(x); e != api.ErrLong {
			t.Errorf("%d: %v", i, e)
		}
	}
	if e := term.Check(api.Term{Form: 99, Kids: make([]api.Term, api.MaxTerm-1)}); e != api.ErrForm {
		t.Errorf("just short enough: %v", e)
	}
}

// wrong answers terms that Check does not take, and what it tells of them.
func wrong() map[api.Errno]api.Term {
	return map[api.Errno]api.Term{api.ErrForm: of(api.TApp, set, api.Term{}), api.ErrLong: high(api.MaxHigh+1, api.Term{})}
}

func TestP202AskCheck(t *testing.T) {
	for e, x := range wrong() {
		if term.Size(x) != 0 || term.Free(of(api.TApp, variable(3), x)) != 0 || term.Has(of(api.TApp, constant("c"), x), "c") {
			t.Errorf("%v: Size, Free, Has", e)
		}
		if term.Same(x, x) || term.Same(set, x) || term.Same(x, set) {
			t.Errorf("%v: Same", e)
		}
		got, f := term.Lift(x, -1, -1)
		nothing(t, "Lift", got, f, e)
		got, f = term.Subst(x, -1, api.Term{Form: api.TApp})
		nothing(t, "Subst", got, f, e)
		got, f = term.Subst(set, -1, x)
		nothing(t, "Subst by", got, f, e)
		got, f = term.Subst(set, 0, x)
		nothing(t, "Subst of none by", got, f, e)
		got, f = term.Levels(x, []api.Level{{N: -1}})
		nothing(t, "Levels", got, f, e)
	}
	got, e := term.Subst(wrong()[api.ErrLong], 0, wrong()[api.ErrForm])
	nothing(t, "the first one's error", got, e, api.ErrLong)
	got, e = term.Subst(wrong()[api.ErrForm], 0, wrong()[api.ErrLong])
	nothing(t, "the first one's error", got, e, api.ErrForm)
}

func nothing(t *testing.T, what string, got api.Term, e, want api.Errno) {
	t.Helper()
	if e != want || !reflect.DeepEqual(got, api.Term{}) {
		t.Errorf("%s: %v, not %v; beside it %+v", what, e, want, got)
	}
}

func TestP202AnswerTooGreat(t *testing.T) {
	got, e := term.Lift(variable(1<<30), 0, 1)
	nothing(t, "an index above 2^30", got, e, api.ErrLong)
	got, e = term.Subst(of(api.TLam, set, variable(1)), 0, variable(1<<30))
	nothing(t, "an index above 2^30 under a binder", got, e, api.ErrLong)
	got, e = term.Subst(high(300, variable(0)), 0, high(202, set))
	nothing(t, "501 high", got, e, api.ErrLong)
	got, e = term.Subst(of(api.TApp, variable(0), variable(0)), 0, wide(9999+2, set))
	nothing(t, "20003 parts", got, e, api.ErrLong)
	got, e = term.Subst(wide(19999, variable(0)), 0, wide(19999, set))
	nothing(t, "some 10^8 parts", got, e, api.ErrLong)
	got, e = term.Subst(wide(19999, variable(0)), 0, of(api.TFst, set))
	nothing(t, "29999 parts", got, e, api.ErrLong)
}

func TestP202AnswerJustFits(t *testing.T) {
	if got, e := term.Lift(variable(1<<30-1<<20), 0, 1<<20); e != api.OK || got.N != 1<<30 {
		t.Errorf("index: %+v, %v", got, e)
	}
	if got, e := term.Subst(of(api.TLam, set, variable(1)), 0, variable(1<<30-1)); e != api.OK || got.Kids[1].N != 1<<30 {
		t.Errorf("index under a binder: %+v, %v", got, e)
	}
	if got, e := term.Subst(high(300, variable(0)), 0, high(201, set)); e != api.OK || !term.Same(got, high(500, set)) {
		t.Errorf("height: %v", e)
	}
	if got, e := term.Subst(of(api.TApp, variable(0), variable(0)), 0, wide(9999, set)); e != api.OK || term.Size(got) != 19999 {
		t.Errorf("parts: %v", e)
	}
	if got, e := term.Subst(of(api.TFst, of(api.TApp, variable(0), variable(0))), 0, wide(9999, set)); e != api.OK || term.Size(got) != api.MaxTerm {
		t.Errorf("all parts: %v", e)
	}
	if got, e := term.Subst(wide(19999, variable(0)), 0, set); e != api.OK || term.Size(got) != 19999 {
		t.Errorf("as many parts: %v", e)
	}
}

func TestP202SizeFreeHas(t *testing.T) {
	for _, x := range terms() {
		size, free := 0, 0
		s := shown(x, 0, 0, func(i, _ int) string {
			free = max(free, i+1)
			return "(f)"
		})
		size = strings.Count(s, "(") + strings.Count(s, "b")
		if term.Size(x) != size || term.Free(x) != free {
			t.Fatalf("%s: %d parts, free %d; not %d, %d", s, term.Size(x), term.Free(x), size, free)
		}
		for _, name := range []string{"c", "d", "e", ""} {
			if want := name != "" && strings.Contains(s, fmt.Sprint("(10 ", name)); term.Has(x, name) != want {
				t.Fatalf("%s: Has %s: %v", s, name, !want)
			}
		}
	}
	if n := term.Size(wide(api.MaxTerm-1, set)); n != api.MaxTerm-1 {
		t.Errorf("Size %d", n)
	}
	if n := term.Free(variable(1 << 30)); n != 1<<30+1 {
		t.Errorf("Free %d", n)
	}
	if term.Free(meta(7)) != 0 || term.Free(of(api.TLam, variable(2), set)) != 3 || term.Free(of(api.TSigma, set, variable(0))) != 0 {
		t.Error("Free")
	}
	if term.Has(api.Term{Form: api.TVar, Name: "c"}, "c") || term.Has(constant("cc"), "c") {
		t.Error("Has")
	}
}

func TestP202Same(t *testing.T) {
	l := append(terms()[:400], random(rand.New(rand.NewSource(3)), 50), variable(3), meta(3), meta(4),
		hidden(of(api.TApp, set, set)), of(api.TApp, set, set), of(api.TLam, set, set), hidden(of(api.TLam, set, set)), of(api.TPi, set, set), hidden(of(api.TPi, set, set)),
		constant("c"), constant("d"), constant("c", number(0)), constant("c", number(0), number(0)), constant("c", number(0), number(1)),
		sort(number(1)), sort(param(0, 0)), sort(param(0, 1)), sort(param(1, 0)), of(api.TSnd, set), of(api.TFst, set))
	for _, a := range l {
		for _, b := range l {
			if want := show(a) == show(b); term.Same(a, b) != want {
				t.Fatalf("%s, %s: %v", show(a), show(b), !want)
			}
		}
	}
}

func TestP202SameLooksAtNoOtherField(t *testing.T) {
	noise := api.Term{N: 9, Hid: true, Name: "x", Levels: []api.Level{{N: 7}}, Kids: []api.Term{}}
	for form, x := range map[int]api.Term{
		api.TVar: variable(1), api.TMeta: meta(1), api.TSort: set, api.TConst: constant("c"), api.TFst: of(api.TFst, set), api.TSnd: of(api.TSnd, set),
		api.TPi: of(api.TPi, set, set), api.TLam: of(api.TLam, set, set), api.TApp: of(api.TApp, set, set), api.TSigma: of(api.TSigma, set, set), api.TPair: of(api.TPair, of(api.TSigma, set, set), set, set),
	} {
		y := noisy(x, noise)
		if term.Check(y) != api.OK || !term.Same(x, y) || !term.Same(y, x) {
			t.Errorf("form %d", form)
		}
	}
}

// noisy fills the fields that x's form does not have.
func noisy(x, noise api.Term) api.Term {
	y := noise
	y.Form = x.Form
	if len(x.Kids) > 0 {
		y.Kids = nil
		for _, k := range x.Kids {
			y.Kids = append(y.Kids, noisy(k, noise))
		}
	}
	switch x.Form {
	case api.TVar, api.TMeta:
		y.N = x.N
	case api.TPi, api.TLam, api.TApp:
		y.Hid = x.Hid
	case api.TConst:
		y.Name, y.Levels = x.Name, x.Levels
	case api.TSort:
		y.Levels = x.Levels
	}
	return y
}

func TestP203Lift(t *testing.T) {
	for _, x := range terms() {
		for _, from := range []int{0, 1, 3, 1 << 20} {
			for _, by := range []int{0, 1, 5, 1 << 20} {
				want := shown(x, 0, 0, func(i, _ int) string {
					if i >= from {
						i += by
					}
					return fmt.Sprint("f", i)
				})
				if got, e := term.Lift(x, from, by); e != api.OK || show(got) != want {
					t.Fatalf("Lift(%s, %d, %d): %s, %v", show(x), from, by, show(got), e)
				}
			}
		}
	}
	x := of(api.TLam, set, of(api.TApp, variable(0), variable(1)))
	if got, e := term.Lift(x, 0, 2); e != api.OK || got.Kids[1].Kids[0].N != 0 || got.Kids[1].Kids[1].N != 3 {
		t.Errorf("%s, %v", show(got), e)
	}
}

func TestP203LiftWrong(t *testing.T) {
	for _, n := range []int{-1, 1<<20 + 1, math.MinInt, math.MaxInt} {
		got, e := term.Lift(set, n, 0)
		nothing(t, "from", got, e, api.ErrArg)
		got, e = term.Lift(set, 0, n)
		nothing(t, "by", got, e, api.ErrArg)
		got, e = term.Lift(variable(1<<30), n, 1)
		nothing(t, "ahead of ErrLong", got, e, api.ErrArg)
	}
}

func TestP203Subst(t *testing.T) {
	by := append(small(2)[:8], of(api.TLam, variable(1), of(api.TApp, variable(0), variable(2))), of(api.TSigma, set, variable(1)))
	for _, x := range terms()[200:] {
		for _, s := range by {
			for _, at := range []int{0, 1, 2, math.MaxInt} {
				want := shown(x, 0, 0, func(i, binders int) string {
					if i == at {
						return shown(s, binders, 0, plain)
					}
					if i > at {
						i--
					}
					return fmt.Sprint("f", i)
				})
				if got, e := term.Subst(x, at, s); e != api.OK || show(got) != want {
					t.Fatalf("Subst(%s, %d, %s): %s, %v", show(x), at, show(s), show(got), e)
				}
			}
		}
	}
}

func TestP203SubstWrong(t *testing.T) {
	for _, at := range []int{-1, math.MinInt} {
		got, e := term.Subst(variable(0), at, set)
		nothing(t, "at", got, e, api.ErrArg)
		got, e = term.Subst(wide(19999, variable(0)), at, wide(19999, set))
		nothing(t, "ahead of ErrLong", got, e, api.ErrArg)
	}
}

func TestP203Levels(t *testing.T) {
	args := []api.Level{{N: 3}, {N: 2, Vars: []api.LVar{{Var: 7, Add: 1}}}}
	x := of(api.TPi, sort(param(0, 1)), of(api.TApp, constant("c", param(1, 2), number(5)), of(api.TFst, sort(api.Level{N: 4, Vars: []api.LVar{{Var: 0}, {Var: 1}}}))))
	want := of(api.TPi, sort(number(4)), of(api.TApp, constant("c", api.Level{N: 4, Vars: []api.LVar{{Var: 7, Add: 3}}}, number(5)), of(api.TFst, sort(api.Level{N: 4, Vars: []api.LVar{{Var: 7, Add: 1}}}))))
	if got, e := term.Levels(x, args); e != api.OK || show(got) != show(want) {
		t.Errorf("%s, %v", show(got), e)
	}
	if got, e := term.Levels(hidden(of(api.TLam, set, variable(4))), nil); e != api.OK || show(got) != show(hidden(of(api.TLam, set, variable(4)))) {
		t.Errorf("without variables: %s, %v", show(got), e)
	}
	noLevel := of(api.TApp, constant("c"), variable(0))
	if got, e := term.Levels(noLevel, []api.Level{{N: -1}}); e != api.OK || show(got) != show(noLevel) {
		t.Errorf("without levels args are not asked for: %v", e)
	}
}

func TestP203LevelsWrong(t *testing.T) {
	for i, x := range []struct {
		t    api.Term
		args []api.Level
	}{
		{sort(param(0, 0)), nil},
		{sort(param(1, 0)), []api.Level{{}}},
		{of(api.TApp, set, sort(param(1, 0))), []api.Level{{}}},
		{of(api.TApp, constant("c", number(0), param(2, 0)), set), []api.Level{{}, {}}},
		{set, []api.Level{{N: -1}}},
		{sort(param(0, 0)), []api.Level{{}, {N: api.MaxLevel + 1}}},
		{of(api.TApp, set, set), []api.Level{{}, {}, {Vars: []api.LVar{{Var: -1}}}}},
		{sort(param(0, 1)), []api.Level{{N: api.MaxLevel}}},
		{of(api.TApp, sort(param(0, 0)), sort(param(0, 1))), []api.Level{{N: api.MaxLevel}}},
		{sort(api.Level{Vars: many(2)}), []api.Level{{Vars: many(64)}, param(64, 0)}},
	} {
		got, e := term.Levels(x.t, x.args)
		nothing(t, fmt.Sprint(i), got, e, api.ErrLevels)
	}
}

func TestP203LevelsOfManyArgs(t *testing.T) {
	args := make([]api.Level, 100000)
	x := wide(9999, constant("c", param(999, 1)))
	got, e := term.Levels(x, args)
	if e != api.OK || show(got) != show(wide(9999, constant("c", number(1)))) {
		t.Errorf("%v", e)
	}
}

// calls are the calls that answer terms, by t and a second term.
func calls() map[string]func(t, s api.Term) (api.Term, api.Errno) {
	return map[string]func(t, s api.Term) (api.Term, api.Errno){
		"Lift":         func(t, _ api.Term) (api.Term, api.Errno) { return term.Lift(t, 1, 2) },
		"Lift by none": func(t, _ api.Term) (api.Term, api.Errno) { return term.Lift(t, 0, 0) },
		"Subst":        func(t, s api.Term) (api.Term, api.Errno) { return term.Subst(t, 1, s) },
		"Subst no one": func(t, s api.Term) (api.Term, api.Errno) { return term.Subst(t, 1000, s) },
		"Levels": func(t, s api.Term) (api.Term, api.Errno) {
			return term.Levels(t, []api.Level{param(3, 1), param(4, 0)})
		},
	}
}

func sample() api.Term {
	r := rand.New(rand.NewSource(5))
	x := of(api.TApp, of(api.TPair, of(api.TSigma, variable(1), set), variable(1), variable(1)), of(api.TSnd, meta(2)))
	for range 20 {
		x = of(api.TApp, x, random(r, 40))
	}
	return x
}

func TestP204OtherFieldsAreZero(t *testing.T) {
	noise := api.Term{N: 9, Hid: true, Name: "x", Levels: []api.Level{{N: 7}}}
	x, s := sample(), of(api.TLam, set, variable(3))
	for name, call := range calls() {
		want, _ := call(x, s)
		got, e := call(noisy(x, noise), noisy(s, noise))
		if e != api.OK || show(got) != show(want) {
			t.Errorf("%s: %v", name, e)
		}
		if !reflect.DeepEqual(got, noisy(got, api.Term{})) {
			t.Errorf("%s: a field that a form does not have: %+v", name, got)
		}
	}
}

// roomy answers a term of the same parts, whose lists have spare room with something in it.
func roomy(t api.Term) api.Term {
	kids := append(make([]api.Term, 0, len(t.Kids)+3), t.Kids...)
	for i, k := range kids {
		kids[i] = roomy(k)
	}
	levels := append(make([]api.Level, 0, len(t.Levels)+3), t.Levels...)
	for i, l := range levels {
		vars := append(make([]api.LVar, 0, len(l.Vars)+3), l.Vars...)
		fill(vars, api.LVar{Var: 5, Add: 5})
		levels[i].Vars = vars
	}
	fill(kids, variable(77))
	fill(levels, number(77))
	t.Kids, t.Levels = kids, levels
	return t
}

func fill[T any](l []T, x T) {
	room := l[len(l):cap(l)]
	for i := range room {
		room[i] = x
	}
}

// whole shows a term with its spare room.
func whole(t api.Term) string {
	s := fmt.Sprint(t.Form, t.N, t.Hid, t.Name)
	for _, l := range t.Levels[:cap(t.Levels)] {
		s += fmt.Sprint(l.N, l.Vars[:cap(l.Vars)])
	}
	for _, k := range t.Kids[:cap(t.Kids)] {
		s += "(" + whole(k) + ")"
	}
	return s
}

// spoil overwrites all lists of a term, their spare room too.
func spoil(t api.Term) {
	for _, k := range t.Kids {
		spoil(k)
	}
	for _, l := range t.Levels {
		vars := l.Vars[:cap(l.Vars)]
		for i := range vars {
			vars[i] = api.LVar{Var: -9, Add: -9}
		}
	}
	for i := range t.Levels[:cap(t.Levels)] {
		t.Levels[:cap(t.Levels)][i] = number(-9)
	}
	for i := range t.Kids[:cap(t.Kids)] {
		t.Kids[:cap(t.Kids)][i] = variable(-9)
	}
}

func TestP204NothingIsChangedOrKept(t *testing.T) {
	for name, call := range calls() {
		x, s := roomy(sample()), roomy(of(api.TLam, sort(param(0, 2)), variable(3)))
		before := whole(x) + whole(s)
		got, e := call(x, s)
		text := show(got)
		if e != api.OK || whole(x)+whole(s) != before {
			t.Errorf("%s: an argument was changed, or %v", name, e)
		}
		spoil(x)
		spoil(s)
		if show(got) != text {
			t.Errorf("%s: an argument was kept", name)
		}
		x = roomy(sample())
		before = whole(x)
		got, _ = call(x, s)
		spoil(got)
		if whole(x) != before {
			t.Errorf("%s: the answer shares memory with an argument", name)
		}
	}
}

func TestP204AsksChangeNothing(t *testing.T) {
	x, y := roomy(sample()), roomy(sample())
	before := whole(x) + whole(y)
	if term.Check(x) != api.OK || term.Size(x) == 0 || term.Free(x) == 0 || !term.Has(x, "c") || !term.Same(x, y) {
		t.Error("asks")
	}
	if whole(x)+whole(y) != before {
		t.Error("an argument was changed")
	}
}

func TestP204LevelsKeepsNoArgs(t *testing.T) {
	arg := []api.Level{{N: 2, Vars: []api.LVar{{Var: 1, Add: 1}, {Var: 2}}}, {}}[:1]
	got, e := term.Levels(of(api.TApp, sort(param(0, 0)), constant("c", param(0, 0), param(0, 0))), arg)
	if e != api.OK {
		t.Fatal(e)
	}
	text := show(got)
	arg[0].Vars[0] = api.LVar{Var: 9, Add: 9}
	if show(got) != text {
		t.Error("args were kept")
	}
	apart(t, "Levels", got, map[any]bool{})
}

// apart tells where two lists of one answer have a place in common.
func apart(t *testing.T, name string, x api.Term, seen map[any]bool) {
	t.Helper()
	see := func(p any) {
		if seen[p] {
			t.Fatalf("%s: two lists share memory", name)
		}
		seen[p] = true
	}
	for i := range x.Kids[:cap(x.Kids)] {
		see(&x.Kids[:cap(x.Kids)][i])
	}
	for i := range x.Levels[:cap(x.Levels)] {
		see(&x.Levels[:cap(x.Levels)][i])
	}
	for _, l := range x.Levels {
		for i := range l.Vars[:cap(l.Vars)] {
			see(&l.Vars[:cap(l.Vars)][i])
		}
	}
	for _, k := range x.Kids {
		apart(t, name, k, seen)
	}
}

func TestP204EachListIsItsOwn(t *testing.T) {
	one := of(api.TApp, sort(param(0, 0)), of(api.TApp, variable(1), constant("c", param(1, 1))))
	x := of(api.TApp, one, of(api.TApp, one, of(api.TLam, one, one)))
	for name, call := range calls() {
		got, e := call(x, one)
		if e != api.OK {
			t.Errorf("%s: %v", name, e)
		}
		apart(t, name, got, map[any]bool{})
	}
}

func TestP204SameAgain(t *testing.T) {
	for name, call := range calls() {
		first, _ := call(sample(), set)
		for range 3 {
			if again, _ := call(sample(), set); show(again) != show(first) {
				t.Errorf("%s: another answer", name)
			}
		}
	}
}
