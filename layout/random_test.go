package layout_test

import (
	"math/rand"
	"reflect"
	"slices"
	"strings"
	"testing"

	"telamon/api"
	"telamon/layout"
)

func held(t *testing.T, s string) api.Errno {
	given := tokens(t, s)
	l, at, e := layout.Blocks(given)
	want, wantAt, wantE := naive(given)
	if e != wantE || at != wantAt || !reflect.DeepEqual(l, want) {
		t.Fatalf("P1301, P1302: %q: %s, %d, %v, not %s, %d, %v", s, told(l), at, e, told(want), wantAt, wantE)
	}
	if e == api.OK {
		shaped(t, s, given, l)
	}
	return e
}

// shaped: all that was handed in is there, blocks end as often as they begin, and what was put in stands where the next token does.
func shaped(t *testing.T, s string, given, l []api.Token) {
	var own []api.Token
	open := 0
	for i, x := range l {
		switch x.Kind {
		case api.KOpen:
			open++
		case api.KClose:
			open--
		}
		if open < 0 || open == 0 && i < len(l)-2 {
			t.Fatalf("P1301: %q: %s: the blocks do not fit", s, told(l))
		}
		if x.Kind < api.KOpen || x.Kind > api.KSemi {
			own = append(own, x)
			continue
		}
		if x.Text != "" {
			x.Kind = api.KWord
			own = append(own, x)
		} else if next := l[i+1]; next.At != x.At || next.Line != x.Line || next.Col != x.Col {
			t.Fatalf("P1302: %q: %+v stands elsewhere than %+v", s, x, next)
		}
	}
	if open != 0 || !slices.Equal(own, given) {
		t.Fatalf("P1301: %q: %s: not the same tokens", s, told(l))
	}
}

// All short texts of pieces that matter.
func TestP1301Short(t *testing.T) {
	pieces := []string{" where ", " let ", " in ", "{", "}", ";", " a ", "\n", "\n ", "\n      "}
	var all func(s string, n int)
	all = func(s string, n int) {
		held(t, s)
		if n == 0 {
			return
		}
		for _, p := range pieces {
			all(s+p, n-1)
		}
	}
	all("", 5)
}

func TestP1301Random(t *testing.T) {
	r := rand.New(rand.NewSource(13))
	pieces := []string{"where", "where", "let", "let", "in", "in", "postulate", "private", "{", "}", "}", ";", "a", "b", "(", ")", "data", ":", "7", "\u00e9"}
	count := map[api.Errno]int{}
	for range 60000 {
		var s strings.Builder
		wide := 1 + r.Intn(30)
		for range r.Intn(60) {
			s.WriteString(pieces[r.Intn(len(pieces))] + " ")
			if r.Intn(3) == 0 {
				s.WriteString("\n" + strings.Repeat(" ", r.Intn(wide)))
			}
		}
		count[held(t, s.String())]++
	}
	if count[api.OK] < 5000 || count[api.ErrLayout] < 5000 {
		t.Errorf("P1301: %v: the test looks at one side alone", count)
	}
}

// Files whose lines go in by little, so that blocks are many.
func TestP1302RandomDeep(t *testing.T) {
	r := rand.New(rand.NewSource(60))
	words := []string{"where", "let", "postulate", "private"}
	count := map[api.Errno]int{}
	for range 3000 {
		var s strings.Builder
		column := 0
		for range 40 + r.Intn(50) {
			s.WriteString(strings.Repeat(" ", column) + words[r.Intn(4)])
			switch r.Intn(60) {
			case 0:
				s.WriteString(" {")
			case 1:
				s.WriteString(" a in b ")
			case 2:
				column = max(0, column-r.Intn(6))
			default:
				column += 1 + r.Intn(2)
			}
			s.WriteString("\n")
		}
		count[held(t, s.String()+strings.Repeat("}", r.Intn(4)))]++
	}
	if count[api.OK] < 100 || count[api.ErrLong] < 100 {
		t.Errorf("P1302: %v: the test looks at one side alone", count)
	}
}
