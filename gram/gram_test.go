package gram_test

import (
	"strings"
	"testing"

	"telamon/api"
	"telamon/gram"
)

type fault struct {
	at int
	e  api.Errno
}

// parsed: each text comes to these statements.
func parsed(t *testing.T, promise string, rows map[string]string) {
	t.Helper()
	for s, want := range rows {
		if l, at, e := gram.Parse(s); e != api.OK || at != 0 || showAll(l) != want {
			t.Errorf("%s: %q: %s, %d, %v, not %s", promise, s, showAll(l), at, e, want)
		}
	}
}

// valued: f = and each text is a clause of that right side; its places count from the text's beginning.
func valued(t *testing.T, rows map[string]string) {
	t.Helper()
	for s, want := range rows {
		l, at, e := gram.Parse("f = " + s)
		if e != api.OK || at != 0 || len(l) != 1 {
			t.Errorf("P1402: %q: %s, %d, %v", s, showAll(l), at, e)
			continue
		}
		moved(&l[0].Exp, -4)
		if got := showStmt(l[0]); got != "clause@0 f@0 = "+want {
			t.Errorf("P1402: %q: %s, not %s", s, got, want)
		}
	}
}

// moved has all places of x so many bytes further on.
func moved(x *api.Exp, by int) {
	x.At += by
	for i := range x.Kids {
		moved(&x.Kids[i], by)
	}
	for i := range x.Binds {
		if b := &x.Binds[i]; b.Type.Form != 0 {
			moved(&b.Type, by)
		}
	}
}

// refused: each text is wrong there.
func refused(t *testing.T, promise string, rows map[string]fault) {
	t.Helper()
	for s, want := range rows {
		if l, at, e := gram.Parse(s); e != want.e || at != want.at || l != nil {
			t.Errorf("%s: %.200q: %s, %d, %v, not %v", promise, s, showAll(l), at, e, want)
		}
	}
}

// marked: in each text the token that stands behind a `!` (which is not of the text) is the one that is wrong.
func marked(t *testing.T, e api.Errno, rows ...string) {
	t.Helper()
	for _, s := range rows {
		at := strings.Index(s, "!")
		refused(t, "P1401", map[string]fault{s[:at] + s[at+1:]: {at, e}})
	}
}

func misplaced(t *testing.T, rows ...string) {
	t.Helper()
	marked(t, api.ErrToken, rows...)
}

// misplacedIn: the rows stand within a text, for its `?`.
func misplacedIn(t *testing.T, around string, rows ...string) {
	t.Helper()
	for _, s := range rows {
		misplaced(t, strings.Replace(around, "?", s, 1))
	}
}

// taken: each text is right.
func taken(t *testing.T, rows ...string) {
	t.Helper()
	for _, s := range rows {
		if l, at, e := gram.Parse(s); len(l) == 0 || at != 0 || e != api.OK {
			t.Errorf("P1401: %.200q: %d, %v", s, at, e)
		}
	}
}

func TestP1401Examples(t *testing.T) {
	parsed(t, "P1402", map[string]string{
		"f zero n = n":             "clause@0 raw@0(f@0 zero@2 n@7) = n@11",
		"id : {A : Set} -> A -> A": "type@0 id : pi@5[{A}:Set-1@10](pi@18[_:A@18](A@23))",
	})
	misplaced(t, "f : !: a")
}

// Errors of lex are told ahead of those of layout, these ahead of the grammar's, wherever they stand; of two of the grammar's the first one.
func TestP1401Order(t *testing.T) {
	refused(t, "P1401", map[string]fault{
		") ) a..b":                                    {4, api.ErrToken},
		"f : :\n\x80":                                 {6, api.ErrUTF},
		" : )\nf \x01":                                {7, api.ErrToken},
		" : )\nf":                                     {5, api.ErrLayout},
		"f = = where {":                               {13, api.ErrLayout},
		") " + strings.Repeat("a", 61):                {2, api.ErrLong},
		") ) " + strings.Repeat("a ", 20000):          {4 + 2*19998, api.ErrLong},
		") " + strings.Repeat(" ", 65536):             {0, api.ErrLong},
		strings.Repeat("where ", 60) + "a":            {360, api.ErrLong},
		"f = ) ) (":                                   {4, api.ErrToken},
		"f = " + strings.Repeat("(", 60) + "a = :":    {64, api.ErrLong},
		"f = : " + strings.Repeat("(", 60) + "a":      {4, api.ErrToken},
		"f = a = " + strings.Repeat("fst ", 60) + "a": {6, api.ErrToken},
	})
}
