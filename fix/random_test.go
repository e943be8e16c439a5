package fix_test

import (
	"math/rand"
	"strings"
	"sync"
	"testing"

	"telamon/api"
	"telamon/fix"
)

// op is an operator of a name: what stands between its blanks are letters.
func op(name string, n int, assoc string) api.Op {
	return api.Op{Name: name, Parts: strings.Fields(strings.ReplaceAll(name, "_", " ")), Left: name[0] == '_', Right: name[len(name)-1] == '_', N: n, Assoc: assoc}
}

// rowOf is a row of words; `{a}` is hidden.
func rowOf(words []string) []api.Exp {
	var l []api.Exp
	at := 0
	for _, w := range words {
		x := api.Exp{Form: api.XName, Name: strings.Trim(w, "{}"), At: at}
		if w[0] == '{' {
			x.At++
			x = api.Exp{Form: api.XHid, At: at, Kids: []api.Exp{x}}
		}
		l = append(l, x)
		at += len(w) + 1
	}
	return l
}

// held: Exp tells the one thing that the second reading finds; how many that one finds is told.
func held(t *testing.T, ops []api.Op, parts []api.Exp) int {
	x := api.Exp{Form: api.XRaw, At: 1000, Kids: parts}
	out, at, e := fix.Exp(ops, x)
	all := naiveRow(ops, parts)
	got := show(out)
	if len(all) == 1 && (got != all[0] || at != 0 || e != api.OK) || len(all) != 1 && (at != 1000 || e != api.ErrOperator || got != "-@0") {
		t.Errorf("P1502: %s of %s: %s, %d, %v, not %v", show(x), showOps(ops), got, at, e, all)
	}
	return len(all)
}

// All short rows, with each two operators that there can be of one part (or two: closed ones, and some more), the same one or another one.
func TestP1502Short(t *testing.T) {
	kinds := func(p, q string) []api.Op {
		return []api.Op{op(p+"_", 1, ""), op(p+"_", 1, "l"), op("_"+p, 1, ""), op("_"+p, 1, "r"), op("_"+p+"_", 1, ""), op("_"+p+"_", 1, "l"), op("_"+p+"_", 1, "r"), op(p+"_"+q, 1, ""), op(p+"_"+q+"_", 1, ""), op("_"+p+"_"+q, 1, "")}
	}
	var wait sync.WaitGroup
	counts := make(chan [3]int, 1000)
	for _, one := range kinds("p", "r") {
		for i, two := range append(kinds("q", "r"), kinds("p", "r")...) {
			wait.Add(1)
			go func() {
				defer wait.Done()
				var count [3]int
				for n := range 3 {
					two.N = n
					words, room := strings.Fields("x p q {h}"), 4
					if i >= 10 {
						words, room = strings.Fields("x p {h}"), 5
					}
					if len(one.Parts)+len(two.Parts) > 2 {
						words[len(words)-1] = "r"
					}
					var all func(l []string, room int)
					all = func(l []string, room int) {
						count[min(2, held(t, []api.Op{one, two}, rowOf(l)))]++
						for _, w := range words {
							if room > 0 {
								all(append(l[:len(l):len(l)], w), room-1)
							}
						}
					}
					all(nil, room)
				}
				counts <- count
			}()
		}
	}
	wait.Wait()
	close(counts)
	var sum [3]int
	for count := range counts {
		for i, n := range count {
			sum[i] += n
		}
	}
	if sum[0] < 1000 || sum[1] < 1000 || sum[2] < 50 {
		t.Errorf("P1502: %v: the test looks at one side alone", sum)
	}
}

// randomOps is operators whose parts are a few letters, so that they get in each other's way.
func randomOps(r *rand.Rand) []api.Op {
	var l []api.Op
	names := map[string]int{}
	for range 1 + r.Intn(5) {
		name := []string{"", "_"}[r.Intn(2)]
		for k := range 1 + r.Intn(3) {
			if k > 0 {
				name += "_"
			}
			name += string(rune('a' + r.Intn(3)))
		}
		if r.Intn(2) == 0 || len(name) == 1 {
			name += "_"
		}
		if names[name]++; names[name] == 1 {
			l = append(l, op(name, r.Intn(3), []string{"", "l", "r"}[r.Intn(3)]))
		}
	}
	return l
}

func TestP1502Random(t *testing.T) {
	var wait sync.WaitGroup
	for i := range 8 {
		wait.Add(1)
		go func() {
			defer wait.Done()
			r := rand.New(rand.NewSource(int64(i)))
			var count [3]int
			for range 6000 {
				ops := randomOps(r)
				var words []string
				letters := strings.Fields("x a x b x c y {h}")
				letters = letters[:3+r.Intn(len(letters)-2)]
				for range 1 + r.Intn(9) {
					words = append(words, letters[r.Intn(len(letters))])
				}
				count[min(2, held(t, ops, rowOf(words)))]++
			}
			if count[0] < 1000 || count[1] < 1000 {
				t.Errorf("P1502: %v: the test looks at one side alone", count)
			}
		}()
	}
	wait.Wait()
}

// Rows that are written out of a form of those operators, so that most of them mean something.
func TestP1502Made(t *testing.T) {
	var wait sync.WaitGroup
	for i := range 8 {
		wait.Add(1)
		go func() {
			defer wait.Done()
			r := rand.New(rand.NewSource(int64(100 + i)))
			var count [3]int
			for range 3000 {
				ops := randomOps(r)
				m := maker{r, ops, 2 + r.Intn(9)}
				words := m.form()
				if len(words) > 10 {
					continue
				}
				if r.Intn(4) == 0 {
					words[r.Intn(len(words))] = []string{"a", "b", "x", "{h}"}[r.Intn(4)]
				}
				count[min(2, held(t, ops, rowOf(words)))]++
			}
			if count[0] < 100 || count[1] < 500 || count[2] < 30 {
				t.Errorf("P1502: %v: the test looks at one side alone", count)
			}
		}()
	}
	wait.Wait()
}

// maker writes forms at random, by the words of the chapter.
type maker struct {
	*rand.Rand
	ops    []api.Op
	budget int // how many parts there are to be, about
}

func (m *maker) form() []string {
	open := m.which(func(op api.Op) bool { return op.Left || op.Right })
	if m.budget <= 0 || len(open) == 0 || m.Intn(4) == 0 {
		return m.simple()
	}
	return m.operator(open[m.Intn(len(open))])
}

func (m *maker) which(is func(api.Op) bool) []api.Op {
	var l []api.Op
	for _, op := range m.ops {
		if is(op) {
			l = append(l, op)
		}
	}
	return l
}

func (m *maker) atom() []string {
	round := m.which(func(op api.Op) bool { return !op.Left && !op.Right })
	if m.budget <= 0 || len(round) == 0 || m.Intn(3) > 0 {
		m.budget--
		return []string{[]string{"x", "y", "z"}[m.Intn(3)]}
	}
	return m.operator(round[m.Intn(len(round))])
}

func (m *maker) simple() []string {
	l := m.atom()
	for m.budget > 0 && m.Intn(3) == 0 {
		if m.Intn(3) == 0 {
			l = append(l, "{h}")
			m.budget--
		} else {
			l = append(l, m.atom()...)
		}
	}
	return l
}

func (m *maker) operator(op api.Op) []string {
	var l []string
	m.budget -= len(op.Parts)
	if op.Left {
		l = m.operand(op, true)
	}
	for i, p := range op.Parts {
		if i > 0 {
			l = append(l, m.form()...)
		}
		l = append(l, p)
	}
	if op.Right {
		l = append(l, m.operand(op, false)...)
	}
	return l
}

func (m *maker) operand(op api.Op, ahead bool) []string {
	may := m.which(func(inner api.Op) bool { return (inner.Left || inner.Right) && mayStand(&op, &inner, ahead) })
	if m.budget <= 0 || len(may) == 0 || m.Intn(3) == 0 {
		return m.simple()
	}
	return m.operator(may[m.Intn(len(may))])
}

// Long rows of operators of which no two have a part in common, and none has one twice: these mean one thing, which they are written out of.
func TestP1502Long(t *testing.T) {
	r := rand.New(rand.NewSource(1502))
	long := 0
	for range 4000 {
		var ops []api.Op
		letters := "abcdefghijklmnopqrst"
		for len(letters) > 4 {
			n := 1 + r.Intn(3)
			name := strings.Join(strings.Split(letters[:n], ""), "_")
			letters = letters[n:]
			if r.Intn(2) == 0 {
				name = "_" + name
			}
			if r.Intn(2) == 0 || len(name) == 1 {
				name += "_"
			}
			ops = append(ops, op(name, r.Intn(4), []string{"", "l", "r"}[r.Intn(3)]))
		}
		m := maker{r, ops, 5 + r.Intn(50)}
		words := m.form()
		if len(words) > 60 {
			continue
		}
		if len(words) > 40 {
			long++
		}
		x := api.Exp{Form: api.XRaw, Kids: rowOf(words)}
		out, at, e := fix.Exp(ops, x)
		if at != 0 || e != api.OK || strings.Join(flat(ops, out), " ") != strings.Join(words, " ") {
			t.Fatalf("P1502: %v of %s: %s, %d, %v", words, showOps(ops), show(out), at, e)
		}
		if again, _, e := fix.Exp(ops, out); show(again) != show(out) || e != api.OK {
			t.Fatalf("P1502: %s: %s, %v", show(out), show(again), e)
		}
	}
	if long < 300 {
		t.Errorf("P1502: %d rows are long: the test looks at one side alone", long)
	}
}

// flat is a meaning as the row that it was read from.
func flat(ops []api.Op, x api.Exp) []string {
	var args [][]string
	for x.Form == api.XApp {
		arg := flat(ops, x.Kids[1])
		if x.Hid {
			arg = []string{"{" + strings.Join(arg, " ") + "}"}
		}
		args = append([][]string{arg}, args...)
		x = x.Kids[0]
	}
	var l []string
	pieces := []string{x.Name}
	for _, op := range ops {
		if op.Name == x.Name {
			pieces = strings.Split(x.Name, "_")
		}
	}
	for i, piece := range pieces {
		if i > 0 {
			l = append(l, args[0]...)
			args = args[1:]
		}
		if piece != "" {
			l = append(l, piece)
		}
	}
	for _, arg := range args {
		l = append(l, arg...)
	}
	return l
}
