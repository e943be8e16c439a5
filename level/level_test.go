package level_test

import (
	"math"
	"slices"
	"testing"

	"telamon/api"
	"telamon/level"
)

// of is the level of n and of variables, each with its Add behind it.
func of(n int, l ...int) api.Level {
	x := api.Level{N: n}
	for i := 0; i+1 < len(l); i += 2 {
		x.Vars = append(x.Vars, api.LVar{Var: l[i], Add: l[i+1]})
	}
	return x
}

// run is the level of n and of the variables from first on, count of them, all with one Add.
func run(n, first, count, add int) api.Level {
	x := api.Level{N: n}
	for i := range count {
		x.Vars = append(x.Vars, api.LVar{Var: first + i, Add: add})
	}
	return x
}

func equal(a, b api.Level) bool { return a.N == b.N && slices.Equal(a.Vars, b.Vars) }

func isZero(l api.Level) bool { return l.N == 0 && len(l.Vars) == 0 }

// number is the number of a right level, straight by the word's meaning.
func number(l api.Level, vals []int) int {
	n := l.N
	for _, v := range l.Vars {
		n = max(n, vals[v.Var]+v.Add)
	}
	return n
}

func isCanonical(l api.Level) bool {
	for i, v := range l.Vars {
		if i > 0 && l.Vars[i-1].Var >= v.Var {
			return false
		}
		if l.N != 0 && v.Add >= l.N {
			return false
		}
	}
	return true
}

// wrongLevels are levels that are not right, each by one thing.
func wrongLevels() []api.Level {
	return []api.Level{
		of(-1), of(1001), of(math.MinInt), of(math.MaxInt),
		of(0, 0, -1), of(0, 0, 1001), of(0, 0, math.MaxInt), of(0, 0, math.MinInt),
		of(0, -1, 0), of(0, 1001, 0), of(0, math.MaxInt, 0), of(0, math.MinInt, 0),
		of(5, 0, 1, 1, 2, 2, -1), of(-1, 0, 1),
		run(0, 0, 65, 0), run(3, 7, 500, 1),
		{Vars: make([]api.LVar, 65)}, // one variable, but more than 64 Vars
	}
}

// smallLevels are all levels of small numbers with at most two Vars of two variables: in any order, standing twice, with any N.
func smallLevels() []api.Level {
	var vars []api.LVar
	for v := range 2 {
		for add := range 3 {
			vars = append(vars, api.LVar{Var: v, Add: add})
		}
	}
	var out []api.Level
	for n := range 4 {
		out = append(out, api.Level{N: n})
		for _, a := range vars {
			out = append(out, api.Level{N: n, Vars: []api.LVar{a}})
			for _, b := range vars {
				out = append(out, api.Level{N: n, Vars: []api.LVar{a, b}})
			}
		}
	}
	return out
}

// valuations are enough to tell apart all levels whose numbers are 3 at most.
func valuations() [][]int {
	var out [][]int
	for a := range 6 {
		for b := range 6 {
			out = append(out, []int{a, b})
		}
	}
	return out
}

func forEach(f func(vals []int) bool) bool {
	for _, vals := range valuations() {
		if !f(vals) {
			return false
		}
	}
	return true
}

func TestP101NormAnswers(t *testing.T) {
	for i, x := range []struct{ l, want api.Level }{
		{of(0), of(0)},
		{of(7), of(7)},
		{of(1000), of(1000)},
		{of(1, 0, 2), of(0, 0, 2)},
		{of(2, 0, 2), of(0, 0, 2)},
		{of(3, 0, 2), of(3, 0, 2)},
		{of(0, 0, 0), of(0, 0, 0)},
		{of(1, 0, 0), of(1, 0, 0)},
		{of(3, 0, 1, 1, 4), of(0, 0, 1, 1, 4)},
		{of(3, 1, 4, 0, 1), of(0, 0, 1, 1, 4)},
		{of(0, 5, 1, 2, 0, 5, 3), of(0, 2, 0, 5, 3)},
		{of(0, 5, 3, 2, 0, 5, 1), of(0, 2, 0, 5, 3)},
		{of(2, 4, 1, 4, 1, 4, 1), of(2, 4, 1)},
		{of(1000, 1000, 1000), of(0, 1000, 1000)},
		{of(1000, 1000, 999), of(1000, 1000, 999)},
		{run(9, 0, 64, 8), run(9, 0, 64, 8)},
		{api.Level{Vars: make([]api.LVar, 64)}, of(0, 0, 0)},
		{api.Level{N: 4, Vars: []api.LVar{}}, of(4)},
	} {
		if l, e := level.Norm(x.l); e != api.OK || !equal(l, x.want) {
			t.Errorf("%d: Norm(%v) = %v, %v, not %v", i, x.l, l, e, x.want)
		}
	}
}

func TestP101NormIsCanonicalAndTheSame(t *testing.T) {
	for _, l := range smallLevels() {
		c, e := level.Norm(l)
		if e != api.OK || !isCanonical(c) {
			t.Fatalf("Norm(%v) = %v, %v", l, c, e)
		}
		if !forEach(func(vals []int) bool { return number(l, vals) == number(c, vals) }) {
			t.Fatalf("Norm(%v) = %v is another level", l, c)
		}
		if again, e := level.Norm(c); e != api.OK || !equal(again, c) {
			t.Fatalf("Norm(%v) = %v, %v", c, again, e)
		}
	}
}

func TestP101WrongLevelsAreRefusedEverywhere(t *testing.T) {
	for i, l := range wrongLevels() {
		answers := map[string]func() (api.Level, api.Errno){
			"Norm":                func() (api.Level, api.Errno) { return level.Norm(l) },
			"Suc":                 func() (api.Level, api.Errno) { return level.Suc(l, 1) },
			"Suc below 0":         func() (api.Level, api.Errno) { return level.Suc(l, -1) },
			"Max, first":          func() (api.Level, api.Errno) { return level.Max(l, of(1)) },
			"Max, second":         func() (api.Level, api.Errno) { return level.Max(of(1), l) },
			"Subst":               func() (api.Level, api.Errno) { return level.Subst(l, make([]api.Level, 2000)) },
			"Subst, an argument":  func() (api.Level, api.Errno) { return level.Subst(of(0, 0, 0), []api.Level{l}) },
			"Subst, one not used": func() (api.Level, api.Errno) { return level.Subst(of(0, 0, 0), []api.Level{of(1), l}) },
		}
		for name, f := range answers {
			if got, e := f(); e != api.ErrLevels || !isZero(got) {
				t.Errorf("%d: %s of %v: %v, %v", i, name, l, got, e)
			}
		}
	}
}

func TestP102Suc(t *testing.T) {
	for i, x := range []struct {
		l    api.Level
		n    int
		want api.Level
		e    api.Errno
	}{
		{of(3, 0, 1), 2, of(5, 0, 3), api.OK},
		{of(0, 0, 0), 1, of(0, 0, 1), api.OK},
		{of(0), 1, of(1), api.OK},
		{of(2, 3, 2, 1, 0), 0, of(0, 1, 0, 3, 2), api.OK},
		{of(2, 3, 2, 1, 0), 5, of(0, 1, 5, 3, 7), api.OK},
		{of(0), 1000, of(1000), api.OK},
		{of(0, 0, 0), 1000, of(0, 0, 1000), api.OK},
		{of(1, 0, 0), 999, of(1000, 0, 999), api.OK},
		{run(1, 0, 64, 0), 3, run(4, 0, 64, 3), api.OK},
		{of(1, 0, 0), 1000, of(0), api.ErrLevels},
		{of(0), 1001, of(0), api.ErrLevels},
		{of(1000), 1, of(0), api.ErrLevels},
		{of(0, 0, 2, 1, 0), 999, of(0), api.ErrLevels},
		{of(1000, 0, 5), math.MaxInt, of(0), api.ErrLevels},
		{of(0, 0, 1000), math.MaxInt, of(0), api.ErrLevels},
		{of(1), -1, of(0), api.ErrArg},
		{of(1000), math.MinInt, of(0), api.ErrArg},
		{of(1001), math.MinInt, of(0), api.ErrLevels},
	} {
		if l, e := level.Suc(x.l, x.n); e != x.e || !equal(l, x.want) {
			t.Errorf("%d: Suc(%v, %d) = %v, %v", i, x.l, x.n, l, e)
		}
	}
	for _, l := range smallLevels() {
		s, e := level.Suc(l, 3)
		if e != api.OK || !isCanonical(s) || !forEach(func(vals []int) bool { return number(s, vals) == number(l, vals)+3 }) {
			t.Fatalf("Suc(%v, 3) = %v, %v", l, s, e)
		}
	}
}

func TestP102Max(t *testing.T) {
	for i, x := range []struct {
		a, b, want api.Level
		e          api.Errno
	}{
		{of(3, 0, 1), of(0, 0, 4, 1, 0), of(0, 0, 4, 1, 0), api.OK},
		{of(3, 7, 1), of(2, 5, 0), of(3, 5, 0, 7, 1), api.OK},
		{of(3), of(0, 2, 3), of(0, 2, 3), api.OK},
		{of(0), of(0), of(0), api.OK},
		{of(1000), of(0, 1000, 0), of(1000, 1000, 0), api.OK},
		{run(0, 0, 64, 1), run(0, 0, 64, 2), run(0, 0, 64, 2), api.OK},
		{run(0, 0, 40, 1), run(0, 24, 40, 1), run(0, 0, 64, 1), api.OK},
		{run(0, 0, 40, 1), run(0, 25, 40, 1), of(0), api.ErrLevels},
		{run(0, 0, 64, 0), of(0, 64, 0), of(0), api.ErrLevels},
	} {
		if l, e := level.Max(x.a, x.b); e != x.e || !equal(l, x.want) {
			t.Errorf("%d: Max(%v, %v) = %v, %v", i, x.a, x.b, l, e)
		}
	}
	all := smallLevels()
	for _, a := range all {
		for _, b := range all {
			m, e := level.Max(a, b)
			if e != api.OK || !isCanonical(m) || !forEach(func(vals []int) bool { return number(m, vals) == max(number(a, vals), number(b, vals)) }) {
				t.Fatalf("Max(%v, %v) = %v, %v", a, b, m, e)
			}
		}
	}
}

func TestP103LeqAndSame(t *testing.T) {
	for i, x := range []struct {
		a, b      api.Level
		leq, same bool
	}{
		{of(0, 0, 0), of(0, 0, 1), true, false},
		{of(0, 0, 1), of(3, 0, 0), false, false},
		{of(2), of(0, 0, 2), true, false},
		{of(3), of(0, 0, 2), false, false},
		{of(0, 0, 0), of(9), false, false},
		{of(0, 0, 0), of(1000, 1, 1000), false, false},
		{of(0), of(0), true, true},
		{of(1, 0, 2), of(0, 0, 2), true, true},
		{of(0, 1, 2, 0, 0, 1, 1), of(2, 0, 0, 1, 2), true, true},
		{of(0, 0, 1), of(0, 0, 0, 0, 1), true, true},
		{run(5, 0, 64, 1), run(5, 0, 64, 1), true, true},
		{of(1000), of(1000), true, true},
	} {
		if got := level.Leq(x.a, x.b); got != x.leq {
			t.Errorf("%d: Leq(%v, %v) = %v", i, x.a, x.b, got)
		}
		if got := level.Same(x.a, x.b); got != x.same {
			t.Errorf("%d: Same(%v, %v) = %v", i, x.a, x.b, got)
		}
		if got := level.Same(x.b, x.a); got != x.same {
			t.Errorf("%d: Same(%v, %v) = %v", i, x.b, x.a, got)
		}
	}
}

func TestP103HoldsForEachValuation(t *testing.T) {
	all := smallLevels()
	for _, a := range all {
		for _, b := range all {
			leq := forEach(func(vals []int) bool { return number(a, vals) <= number(b, vals) })
			same := forEach(func(vals []int) bool { return number(a, vals) == number(b, vals) })
			if level.Leq(a, b) != leq {
				t.Fatalf("Leq(%v, %v) is not %v", a, b, leq)
			}
			if level.Same(a, b) != same {
				t.Fatalf("Same(%v, %v) is not %v", a, b, same)
			}
		}
	}
}

func TestP103WrongLevelsAreNeither(t *testing.T) {
	high := of(1000, 0, 1000)
	for i, l := range wrongLevels() {
		if level.Leq(l, high) || level.Leq(of(0), l) || level.Leq(l, l) {
			t.Errorf("%d: Leq of %v", i, l)
		}
		if level.Same(l, of(0)) || level.Same(of(0), l) || level.Same(l, l) {
			t.Errorf("%d: Same of %v", i, l)
		}
	}
}

func TestP104Subst(t *testing.T) {
	for i, x := range []struct {
		l    api.Level
		args []api.Level
		want api.Level
		e    api.Errno
	}{
		{of(0, 0, 1), []api.Level{of(2, 1, 0)}, of(3, 1, 1), api.OK},
		{of(4, 0, 1), []api.Level{of(2, 1, 0)}, of(4, 1, 1), api.OK},
		{of(4, 0, 1), []api.Level{of(2, 1, 3)}, of(0, 1, 4), api.OK},
		{of(0, 0, 0, 1, 2), []api.Level{of(0, 1, 0), of(0, 0, 0)}, of(0, 0, 2, 1, 0), api.OK},
		{of(0, 0, 0, 1, 2), []api.Level{of(0, 3, 4), of(0, 3, 1)}, of(0, 3, 4), api.OK},
		{of(5), nil, of(5), api.OK},
		{of(5), []api.Level{of(7, 3, 9)}, of(5), api.OK},
		{of(0, 0, 1), []api.Level{of(1, 4, 1)}, of(0, 4, 2), api.OK},
		{of(0, 1, 3), []api.Level{of(9), of(2)}, of(5), api.OK},
		{of(0, 0, 1000), []api.Level{of(0)}, of(1000), api.OK},
		{of(0, 0, 1, 1, 1), []api.Level{run(0, 0, 40, 0), run(0, 24, 40, 0)}, run(0, 0, 64, 1), api.OK},
		{of(0, 0, 1, 1, 1), []api.Level{run(0, 0, 40, 0), run(0, 25, 40, 0)}, of(0), api.ErrLevels},
		{of(0, 0, 1000), []api.Level{of(1)}, of(0), api.ErrLevels},
		{of(0, 0, 1), []api.Level{of(0, 0, 1000)}, of(0), api.ErrLevels},
		{of(0, 0, 0), nil, of(0), api.ErrLevels},
		{of(0, 0, 0, 2, 0), []api.Level{of(1), of(1)}, of(0), api.ErrLevels},
		{of(0, 1000, 0), make([]api.Level, 1000), of(0), api.ErrLevels},
		{of(0, 1000, 0), make([]api.Level, 1001), of(0), api.OK},
		{of(5), []api.Level{of(-2)}, of(0), api.ErrLevels},
	} {
		if l, e := level.Subst(x.l, x.args); e != x.e || !equal(l, x.want) {
			t.Errorf("%d: Subst(%v, %v) = %v, %v", i, x.l, x.args, l, e)
		}
	}
}

func TestP104SubstIsEvalOfArgs(t *testing.T) {
	all := smallLevels()
	for _, l := range all {
		for i, a := range all {
			b := all[(i*7+3)%len(all)]
			s, e := level.Subst(l, []api.Level{a, b})
			if e != api.OK || !isCanonical(s) {
				t.Fatalf("Subst(%v, %v, %v) = %v, %v", l, a, b, s, e)
			}
			if !forEach(func(vals []int) bool { return number(s, vals) == number(l, []int{number(a, vals), number(b, vals)}) }) {
				t.Fatalf("Subst(%v, %v, %v) = %v", l, a, b, s)
			}
		}
	}
}

func TestP104Eval(t *testing.T) {
	for i, x := range []struct {
		l    api.Level
		vals []int
		want int
	}{
		{of(3, 0, 1, 2, 2), []int{5, 0, -4}, 6},
		{of(3, 0, 1, 2, 2), []int{-5, 9, -4}, 3},
		{of(1, 0, 1, 2, 2), nil, 2},
		{of(0, 1, 4, 1, 2), []int{0, 3}, 7},
		{of(0, 1, 4), []int{100}, 4},
		{of(7), []int{100}, 7},
		{of(0, 0, 5), []int{math.MinInt}, 5},
		{of(0, 0, 1000), []int{1 << 62}, 1<<62 + 1000},
		{of(0, 1000, 3), append(make([]int, 1000), 4), 7},
	} {
		if got := level.Eval(x.l, x.vals); got != x.want {
			t.Errorf("%d: Eval(%v, %v) = %d, not %d", i, x.l, x.vals, got, x.want)
		}
	}
	if got := level.Eval(of(0, 0, 1000), []int{math.MaxInt}); got <= 0 {
		t.Errorf("a sum wrapped round: %d", got)
	}
	for _, l := range smallLevels() {
		if !forEach(func(vals []int) bool { return level.Eval(l, vals) == number(l, vals) }) {
			t.Fatalf("Eval of %v", l)
		}
	}
	for i, l := range wrongLevels() {
		if got := level.Eval(l, []int{5}); got != 0 {
			t.Errorf("%d: Eval(%v) = %d", i, l, got)
		}
	}
}

func TestP104Bound(t *testing.T) {
	for i, x := range []struct {
		l    api.Level
		want int
	}{{of(0), 0}, {of(7), 0}, {of(0, 0, 0), 1}, {of(0, 4, 1), 5}, {of(9, 4, 1, 2, 8, 4, 0), 5}, {of(0, 1000, 0), 1001}, {run(0, 3, 64, 0), 67}} {
		if got := level.Bound(x.l); got != x.want {
			t.Errorf("%d: Bound(%v) = %d, not %d", i, x.l, got, x.want)
		}
	}
	for i, l := range wrongLevels() {
		if got := level.Bound(l); got != 0 {
			t.Errorf("%d: Bound(%v) = %d", i, l, got)
		}
	}
}

// roomy is a level whose Vars have spare room behind them, filled with marks.
func roomy(n int, l ...int) api.Level {
	x := of(n, l...)
	all := append(slices.Clone(x.Vars), api.LVar{Var: 77, Add: 77}, api.LVar{Var: 78, Add: 78})
	return api.Level{N: n, Vars: all[:len(x.Vars)]}
}

func whole(l api.Level) []api.LVar { return l.Vars[:cap(l.Vars)] }

// calls are all calls that answer a level, at two levels.
func calls(a, b api.Level, args []api.Level) []func() (api.Level, api.Errno) {
	return []func() (api.Level, api.Errno){
		func() (api.Level, api.Errno) { return level.Norm(a) },
		func() (api.Level, api.Errno) { return level.Suc(a, 0) },
		func() (api.Level, api.Errno) { return level.Suc(a, 2) },
		func() (api.Level, api.Errno) { return level.Max(a, b) },
		func() (api.Level, api.Errno) { return level.Max(a, api.Level{}) },
		func() (api.Level, api.Errno) { return level.Max(api.Level{}, a) },
		func() (api.Level, api.Errno) { return level.Subst(a, args) },
		func() (api.Level, api.Errno) { return level.Subst(of(0, 0, 0), args) },
	}
}

func TestP105WhatIsHandedInStays(t *testing.T) {
	a, b := roomy(1, 2, 1, 0, 3, 2, 4), roomy(2, 1, 0, 0, 0)
	args := []api.Level{roomy(0, 3, 1, 1, 0), roomy(1), roomy(4, 0, 2), roomy(9, 9, 9)}
	vals := []int{4, -2, 3, 9}
	lists := []api.Level{a, b, args[0], args[1], args[2], args[3]}
	var before [][]api.LVar
	for _, l := range lists {
		before = append(before, slices.Clone(whole(l)))
	}
	for _, f := range calls(a, b, args[:3]) {
		if _, e := f(); e != api.OK {
			t.Fatal(e)
		}
	}
	level.Leq(a, b)
	level.Same(a, a)
	level.Eval(a, vals[:2])
	level.Bound(a)
	for i, l := range lists {
		if !slices.Equal(whole(l), before[i]) {
			t.Errorf("list %d was changed: %v", i, whole(l))
		}
	}
	if a.N != 1 || b.N != 2 || args[0].N != 0 || args[1].N != 1 || args[2].N != 4 || args[3].N != 9 || !slices.Equal(vals, []int{4, -2, 3, 9}) {
		t.Error("a number was changed")
	}
}

func TestP105AnswersAreNewMemory(t *testing.T) {
	a, b := roomy(1, 0, 3, 2, 4), roomy(2, 0, 0, 1, 0)
	args := []api.Level{roomy(0, 1, 0, 3, 1), roomy(1), roomy(4, 0, 2)}
	lists := []api.Level{a, b, args[0], args[1], args[2]}
	for i, f := range calls(a, b, args) {
		first, _ := f()
		second, _ := f()
		if !equal(first, second) {
			t.Errorf("call %d answers %v, then %v", i, first, second)
		}
		want := slices.Clone(second.Vars)
		for k := range whole(first) {
			whole(first)[k] = api.LVar{Var: -5, Add: -5}
		}
		if !slices.Equal(second.Vars, want) {
			t.Errorf("call %d: two answers share memory", i)
		}
		for k, l := range lists {
			if slices.Contains(whole(l), api.LVar{Var: -5, Add: -5}) {
				t.Fatalf("call %d: its answer shares memory with list %d", i, k)
			}
		}
	}
}

func TestP105NothingIsKept(t *testing.T) {
	a, b := of(1, 0, 3, 2, 4), of(2, 0, 0, 1, 0)
	args := []api.Level{of(0, 1, 0, 3, 1), of(1), of(4, 0, 2)}
	var got, want []api.Level
	for _, f := range calls(a, b, args) {
		l, _ := f()
		got = append(got, l)
		want = append(want, api.Level{N: l.N, Vars: slices.Clone(l.Vars)})
	}
	for _, l := range append(args, a, b) {
		for k := range l.Vars {
			l.Vars[k] = api.LVar{Var: 9, Add: 9}
		}
	}
	for i := range got {
		if !equal(got[i], want[i]) {
			t.Errorf("call %d: its answer changed with its argument: %v, not %v", i, got[i], want[i])
		}
	}
	if l, e := level.Norm(of(1, 0, 2)); e != api.OK || !equal(l, of(0, 0, 2)) {
		t.Errorf("Norm hangs on more than its argument: %v, %v", l, e)
	}
}
