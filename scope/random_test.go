package scope_test

import (
	"math/rand"
	"strings"
	"sync"
	"testing"

	"telamon/api"
	"telamon/scope"
)

// writer writes files at random, of few names, so that they mean many things. Each statement and each name has a place of its own.
type writer struct {
	*rand.Rand
	at    int
	known []string // global names that there are
}

// learn takes the names that an answer declares.
func (w *writer) learn(l []api.Stmt) {
	w.known = nil
	for _, s := range l {
		w.known = append(w.known, s.Name)
		for _, c := range s.Sub {
			w.known = append(w.known, c.Names...)
		}
	}
}

// some is one of the names that there are, without some of the modules at its beginning.
func (w *writer) some() string {
	steps := strings.Split(w.known[w.Intn(len(w.known))], ".")
	return strings.Join(steps[w.Intn(len(steps)):], ".")
}

func (w *writer) place() int {
	w.at++
	return w.at
}

func (w *writer) one(words string) string {
	l := strings.Fields(words)
	return l[w.Intn(len(l))]
}

// chance: it comes true once in n times.
func (w *writer) chance(n int) bool { return w.Intn(n) == 0 }

// path is the path of a module, if there is one of that path.
func (w *writer) path() string {
	out := w.one("M N O")
	for w.chance(3) {
		out += "." + w.one("M N O")
	}
	return out
}

// fresh is a name to be declared.
func (w *writer) fresh() string {
	if w.chance(150) {
		return w.path() + "." + w.one("a b")
	}
	return w.one("a b c d e f g h i j k l m n o p")
}

func (w *writer) used() string {
	if len(w.known) > 0 && !w.chance(4) {
		return w.some()
	}
	switch w.Intn(12) {
	case 0, 1, 2:
		return w.path() + "." + w.one("a b c d e f g h i j k l m n o p")
	case 3:
		return w.one("Eq refl Top tt Bot uip")
	case 4, 5:
		return w.one("x y z")
	}
	return w.one("a b c d e f g h i j k l m n o p")
}

func (w *writer) exp(room int) api.Exp {
	x := api.Exp{At: w.place()}
	if room == 0 {
		x.Form, x.Name = api.XName, w.used()
		return x
	}
	many := 0
	switch w.Intn(10) {
	case 0:
		x.Form, x.N = api.XSet, w.Intn(3)
	case 1, 2:
		x.Form, x.Hid, many = api.XApp, w.chance(2), 2
	case 3:
		x.Form, many = api.XPi, 1
	case 4:
		x.Form, many = []int{api.XLam, api.XSigma}[w.Intn(2)], 1
	case 5:
		x.Form, x.Name, many = api.XLet, w.one("x y z a _"), 3
	case 6:
		x.Form, many = []int{api.XPair, api.XRaw}[w.Intn(2)], 2
	case 7:
		x.Form, many = []int{api.XFst, api.XSnd, api.XHid}[w.Intn(3)], 1
	case 8:
		x.Form = []int{api.XHole, api.XNone}[w.Intn(2)]
	default:
		x.Form, x.Name = api.XName, w.used()
	}
	if x.Form == api.XPi || x.Form == api.XLam || x.Form == api.XSigma {
		x.Binds = w.binds(2, room-1)
		if x.Form == api.XLam && w.chance(2) {
			for i := range x.Binds {
				x.Binds[i].Type = api.Exp{}
			}
		}
	}
	for range many {
		x.Kids = append(x.Kids, w.exp(room-1))
	}
	return x
}

func (w *writer) binds(most, room int) []api.Bind {
	var l []api.Bind
	for range w.Intn(most + 1) {
		l = append(l, api.Bind{Name: w.one("x y z x y z _ a b k M.a"), Hid: w.chance(3), Type: w.exp(room)})
	}
	return l
}

func (w *writer) pattern(room int) api.Exp {
	x := api.Exp{Form: api.XName, Name: w.one("x y z a b c d e f g h i j k l m n o p refl tt Top"), At: w.place()}
	switch w.Intn(14) {
	case 0:
		return api.Exp{Form: []int{api.XHole, api.XNone}[w.Intn(2)], At: x.At}
	case 1:
		x.Name = w.path() + "." + w.one("a b c d e f g h i j k l m n o p")
	case 2:
		if w.chance(10) {
			return w.exp(2)
		}
	case 3:
		x.Name += "1"
	}
	for room > 0 && w.chance(3) {
		x = api.Exp{Form: api.XApp, Hid: w.chance(3), At: x.At, Kids: []api.Exp{x, w.pattern(room - 1)}}
	}
	return x
}

func (w *writer) clause(name string) api.Stmt {
	x := api.Exp{Form: api.XName, Name: name, At: w.place()}
	for w.chance(2) {
		x = api.Exp{Form: api.XApp, Hid: w.chance(3), At: w.place(), Kids: []api.Exp{x, w.pattern(2)}}
	}
	out := api.Stmt{Form: api.SClause, Left: x, At: w.place()}
	if !w.chance(4) {
		out.Exp = w.exp(2)
	}
	return out
}

func (w *writer) names(most int) []string {
	var l []string
	for range 1 + w.Intn(most) {
		l = append(l, w.fresh())
	}
	return l
}

func (w *writer) types(most int) []api.Stmt {
	var l []api.Stmt
	for range 1 + w.Intn(most) {
		l = append(l, api.Stmt{Form: api.SType, Names: w.names(2), Exp: w.exp(1), At: w.place()})
	}
	return l
}

func (w *writer) open() api.Stmt {
	s := api.Stmt{Form: api.SOpen, Name: w.path(), Only: w.chance(3), At: w.place()}
	inner := w.fresh
	if name := w.used(); strings.Contains(name, ".") {
		i := strings.LastIndex(name, ".")
		s.Name = name[:i]
		var l []string
		for _, g := range w.known {
			if j := strings.LastIndex(g, "."); j >= 0 && strings.HasSuffix("."+g[:j], "."+s.Name) {
				l = append(l, g[j+1:])
			}
		}
		inner = func() string {
			if len(l) == 0 || w.chance(20) {
				return w.fresh()
			}
			return l[w.Intn(len(l))]
		}
	}
	if s.Only || w.chance(20) {
		for w.chance(2) {
			s.Using = append(s.Using, inner())
		}
	}
	if !s.Only && w.chance(3) || w.chance(20) {
		s.Hiding = []string{inner(), inner()}[w.Intn(2):]
	}
	for w.chance(3) {
		s.Renaming = append(s.Renaming, [2]string{inner(), w.fresh()})
	}
	return s
}

// items is a few items: mostly one; a function with its clauses.
func (w *writer) items() []api.Stmt {
	switch w.Intn(10) {
	case 0, 1:
		name := w.fresh()
		l := []api.Stmt{{Form: api.SType, Names: []string{name}, Exp: w.exp(2), At: w.place()}, w.clause(name)}
		for w.chance(3) {
			if w.chance(15) {
				name = w.fresh()
			}
			l = append(l, w.clause(name))
		}
		if w.chance(25) {
			i := w.Intn(2)
			l = append(l[:i], l[i+1:]...)
		}
		if w.chance(25) && l[0].Form == api.SType {
			l[0].Names = w.names(2)
		}
		return l
	case 2:
		return []api.Stmt{{Form: api.SPost, Sub: w.types(2), At: w.place()}}
	case 3, 4:
		return []api.Stmt{{Form: api.SData, Name: w.fresh(), Binds: w.binds(2, 1), Exp: w.exp(1), Sub: w.types(3), At: w.place()}}
	case 5, 6:
		return []api.Stmt{{Form: api.SModule, Name: w.one("M N O M N O P Q R S M.N"), Binds: w.binds(2, 1), At: w.place()}}
	case 7:
		return []api.Stmt{{Form: api.SPriv, At: w.place()}}
	}
	return []api.Stmt{w.open()}
}

// grown is l with one more row of items in one of the blocks that stand last in it.
func (w *writer) grown(l []api.Stmt) []api.Stmt {
	out := append([]api.Stmt{}, l...)
	if n := len(out); n > 0 && (out[n-1].Form == api.SModule || out[n-1].Form == api.SPriv) && !w.chance(5) {
		out[n-1].Sub = w.grown(out[n-1].Sub)
		return out
	}
	return append(out, w.items()...)
}

// counts is how often each thing came about.
type counts map[api.Errno]int

func (c counts) one(t *testing.T, l []api.Stmt) ([]api.Stmt, api.Errno) {
	want, wantAt, wantE := naive(l)
	got, at, e := scope.Resolve(l)
	c[e]++
	if at != wantAt || e != wantE || showStmts(got) != showStmts(want) {
		t.Fatalf("P1601: %s:\n%s, %d, %v, not\n%s, %d, %v", showStmts(l), showStmts(got), at, e, showStmts(want), wantAt, wantE)
	}
	return got, e
}

// Files grow by a statement at a time; what makes them wrong is mostly left out again.
func TestP1601Random(t *testing.T) {
	const groups = 8
	var all [groups]counts
	var wait sync.WaitGroup
	for i := range groups {
		all[i] = counts{}
		wait.Add(1)
		go func() {
			defer wait.Done()
			w := writer{Rand: rand.New(rand.NewSource(int64(i)))}
			for range 20 {
				var l []api.Stmt
				w.known = nil
				for range 150 {
					more := w.grown(l)
					out, e := all[i].one(t, more)
					if e == api.OK {
						w.learn(out)
					}
					if e == api.OK || w.chance(300) {
						l = more
					}
				}
			}
		}()
	}
	wait.Wait()
	sum := counts{}
	for _, c := range all {
		for e, n := range c {
			sum[e] += n
		}
	}
	for _, e := range []api.Errno{api.OK, api.ErrScope, api.ErrAmbiguous, api.ErrClash, api.ErrMissing, api.ErrPattern, api.ErrToken} {
		if sum[e] < 100 {
			t.Errorf("P1601: %v: the test looks at one side alone: %d of %v", sum, sum[e], e)
		}
	}
}
