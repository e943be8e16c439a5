package tele_test

import (
	"fmt"
	"math"
	"math/rand"
	"reflect"
	"strings"
	"testing"

	"telamon/api"
	"telamon/tele"
	"telamon/term"
)

func variable(n int) api.Term { return api.Term{Form: api.TVar, N: n} }

func sort(l ...api.Level) api.Term { return api.Term{Form: api.TSort, Levels: l} }

func constant(name string, l ...api.Level) api.Term {
	return api.Term{Form: api.TConst, Name: name, Levels: l}
}

func of(form int, kids ...api.Term) api.Term { return api.Term{Form: form, Kids: kids} }

func hidden(t api.Term) api.Term {
	t.Hid = true
	return t
}

func param(n, add int) api.Level { return api.Level{Vars: []api.LVar{{Var: n, Add: add}}} }

var set = sort(api.Level{})

// high is a term of that height, with t at its bottom.
func high(n int, t api.Term) api.Term {
	for range n - 1 {
		t = of(api.TFst, t)
	}
	return t
}

// wide is a term of that many parts (an odd number), with t in each leaf.
func wide(parts int, t api.Term) api.Term {
	if parts == 1 {
		return t
	}
	left := (parts-1)/2 | 1
	return of(api.TApp, wide(left, t), wide(parts-1-left, t))
}

func times(n int, t api.Term) []api.Term {
	l := make([]api.Term, n)
	for i := range l {
		l[i] = t
	}
	return l
}

// random answers a term of all forms, with about that many parts.
func random(r *rand.Rand, parts int) api.Term {
	if parts <= 1 {
		leaves := []api.Term{variable(r.Intn(6)), variable(r.Intn(6)), {Form: api.TMeta, N: 2}, set, sort(param(1, 2)), constant("c"), constant("d", param(0, 1), api.Level{N: 4})}
		return leaves[r.Intn(len(leaves))]
	}
	half := parts / 2
	switch r.Intn(7) {
	case 0:
		return of(api.TSnd, random(r, parts-1))
	case 1:
		return of(api.TPair, of(api.TSigma, random(r, parts/4), random(r, parts/4)), random(r, parts/4), random(r, parts/4))
	case 2:
		return of(api.TApp, random(r, half), random(r, half))
	case 3:
		return hidden(of(api.TApp, random(r, half), random(r, half)))
	case 4:
		return hidden(of(api.TPi, random(r, half), random(r, half)))
	case 5:
		return of(api.TSigma, random(r, half), random(r, half))
	}
	return of(api.TLam, random(r, half), random(r, half))
}

func randoms(r *rand.Rand, n, parts int) []api.Term {
	var l []api.Term
	for range n {
		l = append(l, random(r, 1+r.Intn(parts)))
	}
	return l
}

func hids(r *rand.Rand, n int) []bool {
	var l []bool
	for range n {
		l = append(l, r.Intn(2) == 0)
	}
	return l
}

// wrong answers terms that term.Check does not take.
func wrong() []api.Term {
	return []api.Term{{}, {Form: 77}, variable(-1), of(api.TApp, constant("f")), of(api.TApp, constant("f"), api.Term{}), of(api.TPi, set, api.Term{}), high(api.MaxHigh+1, set), wide(api.MaxTerm+1, set)}
}

// endless answers terms without an end.
func endless() []api.Term {
	one := of(api.TFst, set)
	one.Kids[0] = one
	two := of(api.TApp, set, set)
	two.Kids[0], two.Kids[1] = two, two
	pi := of(api.TPi, set, set)
	pi.Kids[1] = pi
	shared := set
	for range 400 {
		shared = of(api.TApp, shared, shared)
	}
	return []api.Term{one, two, pi, shared}
}

func nothing(t *testing.T, what any, got api.Term, e, want api.Errno) {
	t.Helper()
	if e != want || !reflect.DeepEqual(got, api.Term{}) {
		t.Errorf("%v: %v, not %v; beside it %+v", what, e, want, got)
	}
}

// rows are the calls that put a row of terms to one, each with what its answer is by the document.
var rows = []struct {
	name string
	call func(l []api.Term, hid []bool, t api.Term) (api.Term, api.Errno)
	want func(l []api.Term, hid []bool, t api.Term) api.Term
}{
	{"Pis", tele.Pis, func(l []api.Term, hid []bool, t api.Term) api.Term { return binders(api.TPi, l, hid, t) }},
	{"Lams", tele.Lams, func(l []api.Term, hid []bool, t api.Term) api.Term { return binders(api.TLam, l, hid, t) }},
	{"Apply", func(l []api.Term, hid []bool, t api.Term) (api.Term, api.Errno) { return tele.Apply(t, l, hid) }, func(l []api.Term, hid []bool, t api.Term) api.Term {
		for i, x := range l {
			t = api.Term{Form: api.TApp, Hid: i < len(hid) && hid[i], Kids: []api.Term{t, x}}
		}
		return t
	}},
}

func binders(form int, l []api.Term, hid []bool, t api.Term) api.Term {
	if len(l) == 0 {
		return t
	}
	first := len(hid) > 0 && hid[0]
	return api.Term{Form: form, Hid: first, Kids: []api.Term{l[0], binders(form, l[1:], hid[min(1, len(hid)):], t)}}
}

func TestP401P403Rows(t *testing.T) {
	r := rand.New(rand.NewSource(4))
	for _, row := range rows {
		for n := range api.MaxTele + 1 {
			l, x := randoms(r, n, 9), random(r, 20)
			for _, hid := range [][]bool{nil, {}, {true}, hids(r, n), hids(r, n/2), hids(r, n+5)} {
				got, e := row.call(l, hid, x)
				if e != api.OK || !term.Same(got, row.want(l, hid, x)) {
					t.Fatalf("%s of %d: %+v, %v", row.name, n, got, e)
				}
			}
		}
	}
}

func TestP401Example(t *testing.T) {
	got, e := tele.Pis([]api.Term{set, variable(0)}, nil, variable(1))
	if e != api.OK || !term.Same(got, of(api.TPi, set, of(api.TPi, variable(0), variable(1)))) {
		t.Errorf("%+v, %v", got, e)
	}
}

// high, wide terms: those whose answers are just the greatest, and the next ones.
func TestP401P403HowGreat(t *testing.T) {
	for _, row := range rows {
		for _, x := range []struct {
			l    []api.Term
			t    api.Term
			want api.Errno
		}{
			{times(1, set), high(api.MaxHigh-1, set), api.OK},
			{times(1, set), high(api.MaxHigh, set), api.ErrLong},
			{times(api.MaxTele, set), high(api.MaxHigh-api.MaxTele, set), api.OK},
			{times(api.MaxTele, set), high(api.MaxHigh-api.MaxTele+1, set), api.ErrLong},
			{times(1, high(api.MaxHigh-1, set)), set, api.OK},
			{times(1, high(api.MaxHigh, set)), set, api.ErrLong},
			{times(1, of(api.TFst, set)), wide(api.MaxTerm-3, set), api.OK},
			{times(2, set), wide(api.MaxTerm-3, set), api.ErrLong},
			{times(1, wide(api.MaxTerm-3, set)), of(api.TFst, set), api.OK},
			{times(1, wide(api.MaxTerm-3, set)), of(api.TFst, of(api.TFst, set)), api.ErrLong},
			{times(api.MaxTele, wide(api.MaxTerm-1, set)), set, api.ErrLong},
			{times(api.MaxTele+1, set), set, api.ErrLong},
			{times(100000, set), set, api.ErrLong},
		} {
			got, e := row.call(x.l, nil, x.t)
			if x.want != api.OK {
				nothing(t, row.name, got, e, x.want)
			} else if e != api.OK || !term.Same(got, row.want(x.l, nil, x.t)) {
				t.Errorf("%s: %v", row.name, e)
			}
		}
	}
}

func TestP401P403P404ErrorsInOrder(t *testing.T) {
	none, long := of(api.TFst, api.Term{}), high(api.MaxHigh+1, api.Term{})
	calls := map[string]func([]api.Term, []bool, api.Term) (api.Term, api.Errno){
		"Inst": func(l []api.Term, _ []bool, t api.Term) (api.Term, api.Errno) { return tele.Inst(t, l) },
	}
	for _, row := range rows {
		calls[row.name] = row.call
	}
	for name, call := range calls {
		for i, x := range []struct {
			l    []api.Term
			t    api.Term
			want api.Errno
		}{
			{times(api.MaxTele+1, none), none, api.ErrLong},
			{times(api.MaxTele, none), long, api.ErrForm},
			{[]api.Term{set, none, long}, long, api.ErrForm},
			{[]api.Term{set, long, none}, none, api.ErrLong},
			{[]api.Term{set, set, none}, long, api.ErrForm},
			{[]api.Term{set, set, long}, none, api.ErrLong},
			{[]api.Term{none}, set, api.ErrForm},
			{[]api.Term{long}, set, api.ErrLong},
			{[]api.Term{set}, none, api.ErrForm},
			{[]api.Term{set}, long, api.ErrLong},
			{nil, none, api.ErrForm},
			{nil, long, api.ErrLong},
			{[]api.Term{high(api.MaxHigh, set)}, none, api.ErrForm},
		} {
			got, e := call(x.l, []bool{true}, x.t)
			nothing(t, fmt.Sprint(name, " ", i), got, e, x.want)
		}
		for _, x := range endless() {
			got, e := call([]api.Term{x}, nil, api.Term{})
			nothing(t, name+" of an endless one", got, e, api.ErrLong)
			got, e = call(nil, nil, x)
			nothing(t, name+" to an endless one", got, e, api.ErrLong)
		}
	}
}

func sameTerms(a, b []api.Term) bool {
	for i := range a {
		if i >= len(b) || !term.Same(a[i], b[i]) {
			return false
		}
	}
	return len(a) == len(b)
}

func sameHids(a, b []bool) bool { return fmt.Sprint(a) == fmt.Sprint(b) }

func TestP402Split(t *testing.T) {
	r := rand.New(rand.NewSource(5))
	for n := range 40 {
		l, hid := randoms(r, n, 9), hids(r, n)
		for _, within := range []api.Term{variable(2), of(api.TLam, set, of(api.TPi, set, set)), of(api.TApp, of(api.TPi, set, set), set), of(api.TSigma, set, of(api.TPi, set, set))} {
			x := binders(api.TPi, l, hid, within)
			for by := range n + 1 {
				gotL, gotHid, rest, ok := tele.Split(x, by)
				if !ok || !sameTerms(gotL, l[:by]) || !sameHids(gotHid, hid[:by]) || !term.Same(rest, binders(api.TPi, l[by:], hid[by:], within)) {
					t.Fatalf("Split of %d by %d: %v, %v, %+v, %v", n, by, gotL, gotHid, rest, ok)
				}
			}
			noSplit(t, x, n+1)
			noSplit(t, x, math.MaxInt)
		}
	}
	x := binders(api.TPi, times(api.MaxHigh-1, set), nil, variable(4))
	if l, hid, rest, ok := tele.Split(x, api.MaxHigh-1); !ok || len(l) != api.MaxHigh-1 || len(hid) != len(l) || rest.N != 4 {
		t.Errorf("the greatest number of TPis: %d, %v", len(l), ok)
	}
}

func noSplit(t *testing.T, x api.Term, n int) {
	t.Helper()
	if l, hid, rest, ok := tele.Split(x, n); ok || len(l) != 0 || len(hid) != 0 || !reflect.DeepEqual(rest, api.Term{}) {
		t.Errorf("Split by %d: %v, %v, %+v, %v", n, l, hid, rest, ok)
	}
}

func TestP402None(t *testing.T) {
	two := of(api.TPi, set, hidden(of(api.TPi, set, set)))
	for _, n := range []int{-1, math.MinInt, 3, math.MaxInt} {
		noSplit(t, two, n)
	}
	for _, x := range []api.Term{set, of(api.TLam, set, set), of(api.TSigma, set, set), of(api.TApp, two, set)} {
		noSplit(t, x, 1)
	}
	for _, x := range append(wrong(), endless()...) {
		for n := range 3 {
			noSplit(t, x, n)
			noSplit(t, of(api.TPi, set, x), n)
			noSplit(t, of(api.TPi, x, set), n)
		}
	}
}

func TestP403Spine(t *testing.T) {
	r := rand.New(rand.NewSource(6))
	for n := range 40 {
		l, hid := randoms(r, n, 20), hids(r, n)
		for _, head := range []api.Term{variable(7), constant("f", param(0, 0)), of(api.TLam, set, of(api.TApp, variable(0), set)), of(api.TFst, of(api.TApp, set, set)), of(api.TPi, set, set)} {
			h, args, gotHid := tele.Spine(rows[2].want(l, hid, head))
			if !term.Same(h, head) || !sameTerms(args, l) || !sameHids(gotHid, hid) {
				t.Fatalf("of %d: %+v, %v, %v", n, h, args, gotHid)
			}
		}
	}
	h, args, hid := tele.Spine(rows[2].want(times(api.MaxHigh-1, set), []bool{true}, constant("f")))
	if !term.Same(h, constant("f")) || len(args) != api.MaxHigh-1 || len(hid) != api.MaxHigh-1 || !hid[0] || hid[1] {
		t.Errorf("the longest: %d, %d", len(args), len(hid))
	}
}

func TestP403SpineWrong(t *testing.T) {
	for i, x := range append(wrong(), of(api.TApp, of(api.TApp, constant("f"), set), api.Term{}), hidden(of(api.TApp, constant("f"), set, set)), of(api.TVar, set), of(99, of(api.TApp, variable(3), set)), high(60000, constant("f"))) {
		h, args, hid := tele.Spine(x)
		if !reflect.DeepEqual(h, x) || len(args) != 0 || len(hid) != 0 {
			t.Errorf("%d: %v, %v", i, args, hid)
		}
	}
	for _, x := range endless() {
		if _, args, hid := tele.Spine(x); len(args) != 0 || len(hid) != 0 {
			t.Errorf("endless: %v, %v", args, hid)
		}
	}
}

// shown writes a term, under outside binders of which it knows nothing and inside binders of its own, as a text in which a bound variable is called by its binder, and a free one as free tells.
func shown(t api.Term, outside, inside int, free func(index, binders int) string) string {
	if t.Form == api.TVar && t.N < inside {
		return fmt.Sprint("b", outside+inside-1-t.N)
	}
	if t.Form == api.TVar {
		return free(t.N-inside, inside)
	}
	var b strings.Builder
	fmt.Fprint(&b, "(", t.Form, t.N, t.Hid, t.Name, len(t.Levels))
	for _, l := range t.Levels {
		fmt.Fprint(&b, " ", l.N, l.Vars)
	}
	for i, k := range t.Kids {
		n := inside
		if i == 1 && (t.Form == api.TPi || t.Form == api.TLam || t.Form == api.TSigma) {
			n++
		}
		b.WriteString(" " + shown(k, outside, n, free))
	}
	return b.String() + ")"
}

func plain(index, _ int) string { return fmt.Sprint("f", index) }

func show(t api.Term) string { return shown(t, 0, 0, plain) }

func TestP404Inst(t *testing.T) {
	r := rand.New(rand.NewSource(7))
	for range 2000 {
		x, args := random(r, 1+r.Intn(40)), randoms(r, r.Intn(8), 12)
		want := shown(x, 0, 0, func(index, inside int) string {
			if index < len(args) {
				return shown(args[len(args)-1-index], inside, 0, plain)
			}
			return fmt.Sprint("f", index-len(args))
		})
		if got, e := tele.Inst(x, args); e != api.OK || show(got) != want {
			t.Fatalf("Inst(%s, %v): %s, %v", show(x), args, show(got), e)
		}
	}
}

func TestP404Ends(t *testing.T) {
	most := 1 << 30
	var row []api.Term
	for i := range api.MaxTele {
		row = append(row, variable(1000+i))
	}
	body := constant("f")
	for i := range 100 {
		body = of(api.TApp, body, variable(i))
	}
	got, e := tele.Inst(body, row)
	_, args, _ := tele.Spine(got)
	if e != api.OK || len(args) != 100 || args[0].N != 1059 || args[59].N != 1000 || args[60].N != 0 || args[99].N != 39 {
		t.Errorf("60 args: %v", e)
	}
	for i, x := range []struct {
		t    api.Term
		args []api.Term
		want api.Term
	}{
		{variable(0), []api.Term{set, variable(most)}, variable(most)},
		{variable(1), []api.Term{variable(most), set}, variable(most)},
		{variable(most), []api.Term{set, set}, variable(most - 2)},
		{of(api.TLam, set, variable(1)), []api.Term{variable(most - 1)}, of(api.TLam, set, variable(most))},
		{variable(5), times(2, wide(api.MaxTerm-1, set)), variable(3)},
		{of(api.TApp, variable(0), variable(1)), []api.Term{wide(9999, set), wide(9999, variable(2))}, of(api.TApp, wide(9999, variable(2)), wide(9999, set))},
		{high(300, variable(0)), []api.Term{high(201, set)}, high(500, set)},
		{of(api.TSigma, variable(1), of(api.TPi, variable(1), variable(3))), []api.Term{constant("a"), variable(0)}, of(api.TSigma, constant("a"), of(api.TPi, variable(1), constant("a")))},
		{variable(3), nil, variable(3)},
	} {
		if got, e := tele.Inst(x.t, x.args); e != api.OK || !term.Same(got, x.want) {
			t.Errorf("%d: %v", i, e)
		}
	}
}

func TestP404TooGreat(t *testing.T) {
	most := 1 << 30
	for i, x := range []struct {
		t    api.Term
		args []api.Term
		want api.Errno
	}{
		{variable(0), times(api.MaxTele+1, set), api.ErrLong},
		{high(300, variable(0)), []api.Term{high(202, set)}, api.ErrLong},
		{of(api.TApp, variable(0), variable(1)), []api.Term{wide(9999, set), wide(10001, set)}, api.ErrLong},
		{wide(19999, variable(1)), []api.Term{wide(19999, set), set}, api.ErrLong},
		{of(api.TLam, set, variable(1)), []api.Term{variable(most)}, api.ErrForm},
		{of(api.TApp, high(499, variable(1)), of(api.TLam, set, variable(1))), []api.Term{of(api.TFst, set), variable(most)}, api.ErrLong},
	} {
		got, e := tele.Inst(x.t, x.args)
		nothing(t, i, got, e, x.want)
	}
}

// noisy fills the fields that the forms of x's parts do not have; with noise of nothing it empties them.
func noisy(x, noise api.Term) api.Term {
	y := noise
	y.Form, y.Kids = x.Form, nil
	for _, k := range x.Kids {
		y.Kids = append(y.Kids, noisy(k, noise))
	}
	switch x.Form {
	case api.TVar, api.TMeta:
		y.N = x.N
	case api.TPi, api.TLam, api.TApp:
		y.Hid = x.Hid
	case api.TConst:
		y.Name, y.Levels = x.Name, x.Levels
	case api.TSort:
		y.Levels = x.Levels
	}
	return y
}

// answers are the terms of all calls' answers, to a list of three terms and one term.
func answers(t *testing.T, l []api.Term, hid []bool, x api.Term) ([]api.Term, [][]api.Term, [][]bool) {
	var out []api.Term
	take := func(y api.Term, e api.Errno) api.Term {
		t.Helper()
		if e != api.OK {
			t.Fatal(e)
		}
		out = append(out, y)
		return y
	}
	take(tele.Lams(l, hid, x))
	take(tele.Pis(nil, hid, x))
	take(tele.Apply(x, nil, hid))
	take(tele.Inst(x, l))
	take(tele.Inst(x, nil))
	domains, hid1, rest, _ := tele.Split(take(tele.Pis(l, hid, x)), 2)
	noDomains, noHid, whole, _ := tele.Split(x, 0)
	head, args, hid2 := tele.Spine(take(tele.Apply(x, l, hid)))
	bad := of(api.TApp, x, of(api.TFst, x, x))
	wrong, _, _ := tele.Spine(bad)
	out = append(out, rest, whole, head, wrong)
	return append(append(out, domains...), args...), [][]api.Term{domains, noDomains, args}, [][]bool{hid1, noHid, hid2}
}

func sample() ([]api.Term, []bool, api.Term) {
	r := rand.New(rand.NewSource(8))
	x := of(api.TApp, sort(param(0, 0)), of(api.TApp, variable(1), constant("c", param(1, 1))))
	for range 20 {
		x = of(api.TApp, x, random(r, 30))
	}
	return []api.Term{random(r, 30), constant("c", param(1, 1), param(2, 0)), random(r, 30)}, []bool{true, false, true}, x
}

func TestP405OtherFields(t *testing.T) {
	noise := api.Term{N: 9, Hid: true, Name: "x", Levels: []api.Level{{N: -7}}}
	l, hid, x := sample()
	want, _, _ := answers(t, l, hid, x)
	for i, y := range l {
		l[i] = noisy(y, noise)
	}
	got, _, _ := answers(t, l, hid, noisy(x, noise))
	for i := range want {
		if show(got[i]) != show(want[i]) || !reflect.DeepEqual(got[i], noisy(got[i], api.Term{})) {
			t.Errorf("answer %d: %+v", i, got[i])
		}
	}
}

// roomy answers a term of the same parts, whose lists have spare room with something in it.
func roomy(t api.Term) api.Term {
	levels := withRoom(t.Levels, api.Level{N: 77})
	for i, l := range levels {
		levels[i].Vars = withRoom(l.Vars, api.LVar{Var: 5, Add: 5})
	}
	t.Kids, t.Levels = roomyTerms(t.Kids), levels
	return t
}

func roomyTerms(l []api.Term) []api.Term {
	l = withRoom(l, variable(77))
	for i, x := range l {
		l[i] = roomy(x)
	}
	return l
}

func withRoom[T any](l []T, x T) []T {
	return append(append(make([]T, 0, len(l)+3), l...), x, x, x)[:len(l)]
}

// whole shows a term with its spare room.
func whole(t api.Term) string {
	s := fmt.Sprint(t.Form, t.N, t.Hid, t.Name)
	for _, l := range t.Levels[:cap(t.Levels)] {
		s += fmt.Sprint(l.N, l.Vars[:cap(l.Vars)])
	}
	for _, k := range t.Kids[:cap(t.Kids)] {
		s += "(" + whole(k) + ")"
	}
	return s
}

// spoil overwrites all lists of a term, their spare room too.
func spoil(t api.Term) {
	for _, k := range t.Kids {
		spoil(k)
	}
	for _, l := range t.Levels {
		fill(l.Vars, api.LVar{Var: -9, Add: -9})
	}
	fill(t.Levels, api.Level{N: -9})
	fill(t.Kids, variable(-9))
}

func fill[T any](l []T, x T) {
	for i := range l[:cap(l)] {
		l[:cap(l)][i] = x
	}
}

func TestP405NothingIsChangedOrKept(t *testing.T) {
	l, hid, x := sample()
	l, hid, x = roomyTerms(l), withRoom(hid, true), roomy(x)
	all := func() string { return fmt.Sprint(whole(of(api.TApp, l...)), whole(x), hid[:cap(hid)]) }
	before := all()
	got, lists, bools := answers(t, l, hid, x)
	if all() != before {
		t.Error("an argument was changed")
	}
	texts := ""
	for _, y := range got {
		texts += show(y)
	}
	texts += fmt.Sprint(lists, bools)
	l2, hid2, x2 := roomyTerms(l), withRoom(hid, true), roomy(x)
	for _, y := range append(l, x) {
		spoil(y)
	}
	fill(l, variable(-9))
	fill(hid, false)
	after := ""
	for _, y := range got {
		after += show(y)
	}
	if after+fmt.Sprint(lists, bools) != texts {
		t.Error("an argument was kept")
	}
	l, hid, x = l2, hid2, x2
	got, lists, bools = answers(t, l, hid, x)
	for _, y := range got {
		spoil(y)
	}
	for i := range lists {
		fill(lists[i], variable(-9))
		fill(bools[i], false)
	}
	if all() != before {
		t.Error("an answer shares memory with an argument")
	}
}

// places tells of lists that have a place in common.
type places struct {
	t    *testing.T
	seen map[any]bool
}

func see[T any](p places, l []T) {
	for i := range l[:cap(l)] {
		at := &l[:cap(l)][i]
		if p.seen[at] {
			p.t.Fatal("two lists share memory")
		}
		p.seen[at] = true
	}
}

func (p places) term(x api.Term) {
	see(p, x.Kids)
	see(p, x.Levels)
	for _, l := range x.Levels {
		see(p, l.Vars)
	}
	for _, k := range x.Kids {
		p.term(k)
	}
}

func TestP405EachListIsItsOwn(t *testing.T) {
	one := of(api.TApp, of(api.TLam, sort(param(0, 0)), variable(1)), constant("c", param(1, 1), param(2, 0)))
	hid := []bool{true, false, true}
	p := places{t, map[any]bool{}}
	for range 2 {
		got, lists, bools := answers(t, []api.Term{one, one, one}, hid, of(api.TApp, one, one))
		for _, y := range got {
			p.term(y)
		}
		for i := range lists {
			see(p, lists[i])
			see(p, bools[i])
		}
	}
}

func TestP405SameAgain(t *testing.T) {
	l, hid, x := sample()
	first, _, firstHids := answers(t, l, hid, x)
	for range 3 {
		again, _, againHids := answers(t, l, hid, x)
		if !reflect.DeepEqual(again, first) || !reflect.DeepEqual(againHids, firstHids) {
			t.Error("another answer")
		}
	}
}
