package gram_test

import (
	"math/rand"
	"slices"
	"strings"
	"sync"
	"testing"

	"telamon/api"
	"telamon/gram"
)

// held: Parse tells the place and the error that the second reading tells.
func (b *book) held(t *testing.T, s string) api.Errno {
	l, at, e := gram.Parse(s)
	wantAt, want := b.naive(s)
	if at != wantAt || e != want || e != api.OK && l != nil {
		t.Errorf("P1401: %q: %s, %d, %v, not %d, %v", s, showAll(l), at, e, wantAt, want)
	}
	return e
}

// Behind each beginning all short rows of words that matter.
func TestP1401Short(t *testing.T) {
	beginnings := map[string]int{
		"": 2, "f ": 2, "f = ": 3, "f = a ": 2, "f = fst ": 2, "f = \\ ": 3, "f = \\ x ": 2, "f = \\ { ": 2, "f = ( ": 2, "f = ( a ": 2, "f = ( a , ": 2, "f = a ( ": 2, "f = { ": 2, "f = ( x : A ) ": 2, "f = ( x : A ) ( ": 2, "f = ( x : ": 2,
		"f = let ": 2, "f = let a : A = b ": 2, "f = let { a : A = b } ": 2, "f = let a : A ": 2, "f : ": 2, "data D ": 2, "data D : A ": 2, "data D : A where ": 2, "module M ": 2, "module M ( a ": 2, "postulate ": 2, "private ": 2,
		"open M ": 2, "open M using ( ": 2, "open M hiding ( a ": 2, "open M using ( a ) ": 2, "open M renaming ( ": 2, "open M renaming ( a to ": 2, "infix ": 2, "infixl 3 a ": 2,
	}
	words := strings.Split("a b.c _ 7 ( ) { } ; , : = -> ** \\ let in where Set fst data postulate private module open using hiding renaming to infix", " ")
	var wait sync.WaitGroup
	for s, n := range beginnings {
		wait.Add(1)
		go func() {
			defer wait.Done()
			b := newBook()
			var all func(s string, n int)
			all = func(s string, n int) {
				b.held(t, s)
				for _, w := range words {
					if n > 0 {
						all(s+w+" ", n-1)
					}
				}
			}
			all(s, n)
		}()
	}
	wait.Wait()
}

// What is written by the grammar's rules, at random, comes to what it was written for; what is too deep in it is told.
func TestP1402Random(t *testing.T) {
	r := rand.New(rand.NewSource(14))
	deep := 0
	for i := range 8000 {
		m := newMaker(r, 1+r.Intn(150))
		m.steep = i%3 == 0
		want := m.lines(m.item)
		l, at, e := gram.Parse(m.text.String())
		switch {
		case m.over >= 0:
			deep++
			if l != nil || at != m.over || e != api.ErrLong {
				t.Fatalf("P1401: %q: %s, %d, %v, not %d", m.text.String(), showAll(l), at, e, m.over)
			}
		case at != 0 || e != api.OK || showAll(l) != showAll(want):
			t.Fatalf("P1402: %q: %d, %v,\n%s\nnot\n%s", m.text.String(), at, e, showAll(l), showAll(want))
		}
	}
	if deep < 300 || deep > 2500 {
		t.Errorf("P1401: %d files are too deep: the test looks at one side alone", deep)
	}
}

// Right files with a token or two turned.
func TestP1401Random(t *testing.T) {
	words := strings.Split("a b.c _ 7 ( ) { } ; , : = -> ** \\ let in where Set fst data postulate private module open using hiding renaming to infix", " ")
	counts := make([]map[api.Errno]int, 8)
	var wait sync.WaitGroup
	for i := range counts {
		wait.Add(1)
		go func() {
			defer wait.Done()
			r, b, count := rand.New(rand.NewSource(int64(i))), newBook(), map[api.Errno]int{}
			for range 1000 {
				m := newMaker(r, r.Intn(25))
				m.lines(m.item)
				l := m.pieces
				for range 1 + r.Intn(2) {
					switch n := r.Intn(len(l)); r.Intn(4) {
					case 0:
						l = slices.Delete(l, n, n+1)
					case 1:
						l = slices.Insert(l, n, words[r.Intn(len(words))])
					case 2:
						l[n] = words[r.Intn(len(words))]
					case 3:
						l[n], l[0] = l[0], l[n]
					}
					if len(l) == 0 {
						break
					}
				}
				count[b.held(t, strings.Join(l, " "))]++
			}
			counts[i] = count
		}()
	}
	wait.Wait()
	for _, count := range counts {
		if count[api.OK] < 100 || count[api.ErrToken] < 300 {
			t.Errorf("P1401: %v: the test looks at one side alone", count)
		}
	}
}
