package lex_test

import (
	"math/rand"
	"reflect"
	"strings"
	"testing"

	"telamon/api"
	"telamon/lex"
)

func held(t *testing.T, s string) {
	l, at, e := lex.Tokens(s)
	want, wantAt, wantE := naive(s)
	if e != wantE || at != wantAt || !reflect.DeepEqual(l, want) {
		t.Fatalf("P1202, P1203: %q: %+v, %d, %v, not %+v, %d, %v", s, l, at, e, want, wantAt, wantE)
	}
}

// All short texts of pieces that matter.
func TestP1202Short(t *testing.T) {
	pieces := []string{" ", "\n", "(", ";", "-", ">", ".", "1", "a", "_", "\t", "\xe2", "\u2192", "\ufffd"}
	var all func(s string, n int)
	all = func(s string, n int) {
		held(t, s)
		if n == 0 {
			return
		}
		for _, p := range pieces {
			all(s+p, n-1)
		}
	}
	all("", 4)
}

func TestP1202Random(t *testing.T) {
	r := rand.New(rand.NewSource(12))
	pieces := strings.Split(allWords, " ")
	pieces = append(pieces, " ", " ", " ", "\n", "\n", "(", ")", "{", "}", ";", ",", "--", "-", ".", "x", "Nat", "a.b", "0", "42", "123456789", "\u00e9", "\U0001f600", "\ufffd", strings.Repeat("b", 60))
	rare := []string{"\t", "\x00", "\x7f", "\x80", "\xe2\x86", "\xed\xa0\x80", "..", "1234567890", strings.Repeat("c", 61)}
	good := 0
	for range 40000 {
		var s strings.Builder
		for range r.Intn(30) {
			switch n := r.Intn(200); {
			case n < 100:
				s.WriteString(pieces[r.Intn(len(pieces))])
			case n < 199:
				s.WriteString(" ")
			default:
				s.WriteString(rare[r.Intn(len(rare))])
			}
		}
		held(t, s.String())
		if _, _, e := lex.Tokens(s.String()); e == api.OK {
			good++
		}
	}
	if good < 10000 || good > 39000 {
		t.Errorf("P1202: %d of the texts are right: the test looks at one side alone", good)
	}
}

// The tokens' texts, with a blank between and a line end behind, are the same tokens.
func TestP1202Again(t *testing.T) {
	l, _, _ := lex.Tokens(file)
	var s strings.Builder
	for _, x := range l {
		s.WriteString(x.Text + " ")
	}
	again, _, e := lex.Tokens(s.String())
	if e != api.OK || told(again) != told(l) {
		t.Errorf("P1202: %s, %v", told(again), e)
	}
}
