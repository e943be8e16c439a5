package layout_test

import (
	"reflect"
	"slices"
	"strings"
	"testing"

	"telamon/api"
	"telamon/layout"
	"telamon/lex"
)

func tokens(t *testing.T, s string) []api.Token {
	l, at, e := lex.Tokens(s)
	if e != api.OK {
		t.Fatalf("%.40q: no tokens: %d, %v", s, at, e)
	}
	return l
}

// told is a row of tokens without their places: < a block begins, > it ends, / it parts, $ the end of the file; braces and semicolons that layout's tokens stand for are behind these.
func told(l []api.Token) string {
	var out []string
	for _, x := range l {
		out = append(out, []string{"?", "", "", "", "<", ">", "/", "$"}[x.Kind]+x.Text)
	}
	return strings.Join(out, " ")
}

func rows(t *testing.T, promise string, list map[string]string) {
	t.Helper()
	for s, want := range list {
		if l, at, e := layout.Blocks(tokens(t, s)); e != api.OK || at != 0 || told(l) != want {
			t.Errorf("%s: %q: %s, %d, %v, not %s", promise, s, told(l), at, e, want)
		}
	}
}

func faults(t *testing.T, promise string, list map[string]fault) {
	t.Helper()
	for s, want := range list {
		if l, at, e := layout.Blocks(tokens(t, s)); e != want.e || at != want.at || l != nil {
			t.Errorf("%s: %.60q: %d tokens, %d, %v, not %v", promise, s, len(l), at, e, want)
		}
	}
}

func TestP1301Example(t *testing.T) {
	rows(t, "P1301", map[string]string{
		"module M where\n  a : B\n  c : D\ne : F": "< module M where < a : B / c : D > / e : F > $",
	})
}

func TestP1301Lines(t *testing.T) {
	rows(t, "P1301", map[string]string{
		"":                             "< > $",
		"\n\n   ":                      "< > $",
		"a":                            "< a > $",
		"a b\nc d\n":                   "< a b / c d > $",
		"a\n b\n  c\n b\nd":            "< a b c b / d > $",
		"   a\n   b\n    c\n   d":      "< a / b c / d > $",
		"-- x\n\n  a\n\n  b":           "< a / b > $",
		"a\n\n\n  \n\nb":               "< a / b > $",
		"a where\n b\n c\n  d\ne":      "< a where < b / c d > / e > $",
		"a where b\n        c\nd":      "< a where < b / c > / d > $",
		"a where b\n       c\nd":       "< a where < b > c / d > $",
		"a where b\n         c\nd":     "< a where < b c > / d > $",
		"a where\n b where\n  c\nd":    "< a where < b where < c > > / d > $",
		"a where\n b where\n  c\n d":   "< a where < b where < c > / d > > $",
		"a where\n  b where\n   c\n d": "< a where < b where < c > > d > $",
		// Columns are counted in runes.
		"\u00e9\u00e9 where b\n          c": "< \u00e9\u00e9 where < b c > > $",
		"\u00e9\u00e9 where b\n         c":  "< \u00e9\u00e9 where < b / c > > $",
		"\u00e9\u00e9 where b\n        c":   "< \u00e9\u00e9 where < b > c > $",
		// The end of a file is no line of its own.
		"a where\n  b\n ":   "< a where < b > > $",
		"  a where\n   b\n": "< a where < b > > $",
		"  a\n":             "< a > $",
	})
	faults(t, "P1301", map[string]fault{
		" a\nb":                            {3, api.ErrLayout},
		"  a\n  b\n c":                     {9, api.ErrLayout},
		"   a where\n    b\n  c\nd":        {19, api.ErrLayout},
		"  a where\nb":                     {10, api.ErrLayout},
		" let a\nin b":                     {7, api.ErrLayout},
		" a where\n  b where\n   c\nd\n e": {24, api.ErrLayout},
		// A remark counts for no column, a rune of two bytes for one.
		"--\n \u00e9\n--\nb": {10, api.ErrLayout},
	})
}

func TestP1301In(t *testing.T) {
	rows(t, "P1301", map[string]string{
		"in":                                 "< in > $",
		"let a in b":                         "< let < a > in b > $",
		"let in b":                           "< let < > in b > $",
		"let a in let b in c":                "< let < a > in let < b > in c > $",
		"let a let b in c in d":              "< let < a let < b > in c > in d > $",
		"let a where b in c":                 "< let < a where < b > > in c > $",
		"let a where in c":                   "< let < a where < > > in c > $",
		"let a where b private c in d in e":  "< let < a where < b private < c > > > in d in e > $",
		"where a in b":                       "< where < a in b > > $",
		"postulate private a in b":           "< postulate < private < a in b > > > $",
		"where let a in b in c":              "< where < let < a > in b in c > > $",
		"let { a } in b":                     "< let <{ a >} in b > $",
		"let { a in b } in c":                "< let <{ a in b >} in c > $",
		"let a where { b in c } in d":        "< let < a where <{ b in c >} > in d > $",
		"let a where { let b in c } in d":    "< let < a where <{ let < b > in c >} > in d > $",
		"let a where { let b where c in d }": "< let < a where <{ let < b where < c > > in d >} > > $",
		// The line's column is asked first, then the word: what is left of lets may end.
		"let\n  a\n in b":                    "< let < a > in b > $",
		"let\n  a\n  in b":                   "< let < a / > in b > $",
		"let\n  a\n   in b":                  "< let < a > in b > $",
		"let\n a\nin b":                      "< let < a > / in b > $",
		"let\nin b":                          "< let < > / in b > $",
		"let a let\n          b\n      in c": "< let < a let < b > > in c > $",
		// A name or a number is no word.
		"let a in.b b":   "< let < a in.b b > > $",
		"let.a b in c":   "< let.a b in c > $",
		"let a inn in b": "< let < a inn > in b > $",
	})
}

func TestP1301End(t *testing.T) {
	rows(t, "P1301", map[string]string{
		"where":            "< where < > > $",
		"let":              "< let < > > $",
		"private\n\n\n   ": "< private < > > $",
		"  postulate\n":    "< postulate < > > $",
		"a where b let c":  "< a where < b let < c > > > $",
		"a where b let":    "< a where < b let < > > > $",
	})
	faults(t, "P1301", map[string]fault{
		"where {":                {7, api.ErrLayout},
		"where { a\n":            {10, api.ErrLayout},
		"where { a where b":      {17, api.ErrLayout},
		"where { a where":        {15, api.ErrLayout},
		"where { { a }":          {13, api.ErrLayout},
		"let { a in b":           {12, api.ErrLayout},
		"where { private { a } ": {22, api.ErrLayout},
	})
}

func TestP1301Signs(t *testing.T) {
	rows(t, "P1301", map[string]string{
		"where { a ; b }\nc":                "< where <{ a /; b >} / c > $",
		"where { }":                         "< where <{ >} > $",
		"where { { a } { } b }":             "< where <{ { a } { } b >} > $",
		"where { { { a } } } b":             "< where <{ { { a } } >} b > $",
		"where { where { a } b } c":         "< where <{ where <{ a >} b >} c > $",
		"where { { where { a } } }":         "< where <{ { where <{ a >} } >} > $",
		"where { { where { { } } } }":       "< where <{ { where <{ { } >} } >} > $",
		"private { postulate { let { } } }": "< private <{ postulate <{ let <{ >} >} >} > $",
		"a ; b;;c":                          "< a /; b /; /; c > $",
		"a where b ; c\nd":                  "< a where < b /; c > / d > $",
		"a\n; b":                            "< a / /; b > $",
		"where ; a":                         "< where < /; a > > $",
		// Elsewhere braces are as they stand.
		"{ a } b":             "< { a } b > $",
		"} a {":               "< } a { > $",
		"f where {a} b where": "< f where <{ a >} b where < > > $",
		"f where g {a} } b":   "< f where < g { a } } b > > $",
		"f { where { a } }":   "< f { where <{ a >} } > $",
		"data { where a } b":  "< data { where < a } b > > $",
		// Within an explicit block lines mean nothing, but for the implicit ones within it.
		"where {\na\n  b\n c }\nd":                "< where <{ a b c >} / d > $",
		"  where {\na\n} b\n  c":                  "< where <{ a >} b / c > $",
		"where {\n  a where\n    b\n    c\n  d }": "< where <{ a where < b / c > d >} > $",
		"where { a where b\n}":                    "< where <{ a where < b > >} > $",
		"where { a where b\n                c\n}": "< where <{ a where < b / c > >} > $",
		"where { a where {b} }":                   "< where <{ a where <{ b >} >} > $",
	})
	faults(t, "P1301", map[string]fault{
		// A brace in an implicit block ends none.
		"where { a where b }":   {19, api.ErrLayout},
		"where { postulate }":   {19, api.ErrLayout},
		"where { let a } in b":  {20, api.ErrLayout},
		"where { a where\n b }": {20, api.ErrLayout},
	})
}

func TestP1301Words(t *testing.T) {
	for _, w := range []string{"where", "let", "postulate", "private"} {
		rows(t, "P1301", map[string]string{
			w + " a":                    "< " + w + " < a > > $",
			w + " {a}":                  "< " + w + " <{ a >} > $",
			w + "\n{a}":                 "< " + w + " <{ a >} > $",
			"a " + w + "\n  {a} b\n  c": "< a " + w + " <{ a >} b c > $",
			"a " + w + "\n{a} b\nc":     "< a " + w + " <{ a >} b / c > $",
			w + "\na":                   "< " + w + " < > / a > $",
			w + "\n a\n b\nc":           "< " + w + " < a / b > / c > $",
			w + "\n\n -- b\n  a\n  b":   "< " + w + " < a / b > > $",
			w + " " + w + " a":          "< " + w + " < " + w + " < a > > > $",
			w + "\n" + w + "\na":        "< " + w + " < > / " + w + " < > / a > $",
			w + "\n " + w + "\n a\nb":   "< " + w + " < " + w + " < > / a > / b > $",
			w + "\n  a " + w + "\n b":   "< " + w + " < a " + w + " < > > b > $",
			w + w + " a\n b":            "< " + w + w + " a b > $",
			w + "\n )":                  "< " + w + " < ) > > $",
			w + "\n : a\n = b":          "< " + w + " < : a / = b > > $",
		})
		faults(t, "P1301", map[string]fault{" " + w + "\na": {len(w) + 2, api.ErrLayout}})
	}
	for _, w := range []string{"module", "data", "in", "open", "using", "hiding", "renaming", "to", "infix", "Set", "fst", ":", "=", "->", `\`, "_", "(", "Where", "wheres"} {
		rows(t, "P1301", map[string]string{
			w + " a":     "< " + w + " a > $",
			w + "\n a":   "< " + w + " a > $",
			w + " { a }": "< " + w + " { a } > $",
			w + "\na":    "< " + w + " / a > $",
			w:            "< " + w + " > $",
		})
	}
}

// A block's column is held against the innermost implicit block's, whatever stands between.
func TestP1301Columns(t *testing.T) {
	rows(t, "P1301", map[string]string{
		"a where\n    b where {\nc where d\n}":                    "< a where < b where <{ c where < d > >} > > $",
		"a where\n         b where {\nc where d\n}":               "< a where < b where <{ c where < > d >} > > $",
		"a where\n        b where {\nc where d\n}":                "< a where < b where <{ c where < > d >} > > $",
		"a where\n       b where {\nc where d\n}":                 "< a where < b where <{ c where < d > >} > > $",
		"a where\n    b where {\nc where {\n d where e\n}}":       "< a where < b where <{ c where <{ d where < e > >} >} > > $",
		"a where\n          b where {\nc where {\n d where e\n}}": "< a where < b where <{ c where <{ d where < > e >} >} > > $",
		"a where\n  b where\n  c":                                 "< a where < b where < > / c > > $",
		"a where\n  b where\n   c":                                "< a where < b where < c > > > $",
	})
}

func TestP1302Places(t *testing.T) {
	for s, want := range map[string][]api.Token{
		"": {{Kind: api.KOpen, Line: 1, Col: 1}, {Kind: api.KClose, Line: 1, Col: 1}, {Kind: api.KEnd, Line: 1, Col: 1}},
		"\n \u00e9 where\n  {b;}\n c\n": {
			{Kind: api.KOpen, At: 2, Line: 2, Col: 2}, {Kind: api.KName, Text: "\u00e9", At: 2, Line: 2, Col: 2}, {Kind: api.KWord, Text: "where", At: 5, Line: 2, Col: 4},
			{Kind: api.KOpen, Text: "{", At: 13, Line: 3, Col: 3}, {Kind: api.KName, Text: "b", At: 14, Line: 3, Col: 4}, {Kind: api.KSemi, Text: ";", At: 15, Line: 3, Col: 5}, {Kind: api.KClose, Text: "}", At: 16, Line: 3, Col: 6},
			{Kind: api.KSemi, At: 19, Line: 4, Col: 2}, {Kind: api.KName, Text: "c", At: 19, Line: 4, Col: 2}, {Kind: api.KClose, At: 21, Line: 5, Col: 1}, {Kind: api.KEnd, At: 21, Line: 5, Col: 1},
		},
		"let 1 in\nprivate\n": {
			{Kind: api.KOpen, Line: 1, Col: 1}, {Kind: api.KWord, Text: "let", Line: 1, Col: 1}, {Kind: api.KOpen, At: 4, Line: 1, Col: 5}, {Kind: api.KNum, Text: "1", At: 4, Line: 1, Col: 5},
			{Kind: api.KClose, At: 6, Line: 1, Col: 7}, {Kind: api.KWord, Text: "in", At: 6, Line: 1, Col: 7}, {Kind: api.KSemi, At: 9, Line: 2, Col: 1}, {Kind: api.KWord, Text: "private", At: 9, Line: 2, Col: 1},
			{Kind: api.KOpen, At: 17, Line: 3, Col: 1}, {Kind: api.KClose, At: 17, Line: 3, Col: 1}, {Kind: api.KClose, At: 17, Line: 3, Col: 1}, {Kind: api.KEnd, At: 17, Line: 3, Col: 1},
		},
		"where\n a\nb": {
			{Kind: api.KOpen, Line: 1, Col: 1}, {Kind: api.KWord, Text: "where", Line: 1, Col: 1}, {Kind: api.KOpen, At: 7, Line: 2, Col: 2}, {Kind: api.KName, Text: "a", At: 7, Line: 2, Col: 2},
			{Kind: api.KClose, At: 9, Line: 3, Col: 1}, {Kind: api.KSemi, At: 9, Line: 3, Col: 1}, {Kind: api.KName, Text: "b", At: 9, Line: 3, Col: 1}, {Kind: api.KClose, At: 10, Line: 3, Col: 2}, {Kind: api.KEnd, At: 10, Line: 3, Col: 2},
		},
	} {
		if l, at, e := layout.Blocks(tokens(t, s)); e != api.OK || at != 0 || !reflect.DeepEqual(l, want) {
			t.Errorf("P1302: %q: %+v, %d, %v", s, l, at, e)
		}
	}
}

// The outermost block is one of the 60; a block that no sooner begins than it ends is none, nor are braces that are counted.
func TestP1302Deep(t *testing.T) {
	in, out := strings.Repeat("where ", 59), strings.Repeat("let {", 59)
	closed := strings.Repeat("}", 59)
	rows(t, "P1302", map[string]string{
		in + "a":               "< " + strings.Repeat("where < ", 59) + "a " + strings.Repeat("> ", 60) + "$",
		in + "where":           "< " + strings.Repeat("where < ", 60) + strings.Repeat("> ", 61) + "$",
		in + "where\na":        "< " + strings.Repeat("where < ", 60) + strings.Repeat("> ", 60) + "/ a > $",
		out + "{{a}}" + closed: "< " + strings.Repeat("let <{ ", 59) + "{ { a } } " + strings.Repeat(">} ", 59) + "> $",
		out + closed + strings.Repeat("let {", 59) + closed: "< " + strings.Repeat(strings.Repeat("let <{ ", 59)+strings.Repeat(">} ", 59), 2) + "> $",
		strings.Repeat("where { a } ", 200):                 "< " + strings.Repeat("where <{ a >} ", 200) + "> $",
		strings.Repeat("let a in ", 200):                    "< " + strings.Repeat("let < a > in ", 200) + "> $",
		strings.Repeat("where\n a\n", 200):                  "< " + strings.TrimSuffix(strings.Repeat("where < a > / ", 200), "/ ") + "> $",
	})
	faults(t, "P1302", map[string]fault{
		in + "where a":   {360, api.ErrLong},
		in + "let in b":  {358, api.ErrLong},
		in + "where {a}": {360, api.ErrLong},
		in + "where\n" + strings.Repeat(" ", 400) + "a": {760, api.ErrLong},
		out + "let {" + closed + "}":                    {299, api.ErrLong},
		out + "where a" + closed:                        {301, api.ErrLong},
		// The first token at which something is wrong is told.
		out + "let {":                  {299, api.ErrLong},
		" " + in + "where a\nb":        {361, api.ErrLong},
		" " + in + "\nb where where c": {356, api.ErrLayout},
	})
}

// Each `let` of a line of its own comes to four tokens.
func TestP1302Tokens(t *testing.T) {
	lets := strings.Repeat("let\n", 14999)
	for s, many := range map[string]int{lets: 59998, lets + "a": 60000, lets[4:] + "a b c d e": 60000, lets[4:] + "a": 59996} {
		if l, at, e := layout.Blocks(tokens(t, s)); e != api.OK || at != 0 || len(l) != many {
			t.Errorf("P1302: %d bytes: %d tokens, %d, %v, not %d", len(s), len(l), at, e, many)
		}
	}
	end := len(lets)
	faults(t, "P1302", map[string]fault{
		lets + "a b":         {end + 3, api.ErrLong},
		lets + "let":         {end + 3, api.ErrLong},
		lets + "let\n":       {end + 4, api.ErrLong},
		lets + "a\nb":        {end + 3, api.ErrLong},
		lets + " a where b":  {end + 10, api.ErrLong},
		lets + "let\nlet\nx": {end + 4, api.ErrLong},
		lets + "a b c":       {end + 5, api.ErrLong},
		lets + "a b c d":     {end + 6, api.ErrLong},
		" " + strings.Repeat("let\n ", 13000) + "a\nb": {65003, api.ErrLayout},
		// Of one token what its own rules find wrong is told ahead of that.
		strings.Repeat("let\n", 14998) + "where {x x x x": {59992 + 14, api.ErrLayout},
	})
}

func TestP1302Memory(t *testing.T) {
	room := tokens(t, "module M where\n  a : B\n  c { d } ; e\nlet x in y where { z ; }\nlast")
	room = slices.Grow(room, 100)
	whole := room[:cap(room)]
	for i := len(room); i < len(whole); i++ {
		whole[i] = api.Token{Kind: 9, Text: "spare", At: i}
	}
	was := slices.Clone(whole)
	first, _, e := layout.Blocks(room)
	if e != api.OK || !slices.Equal(whole, was) {
		t.Fatalf("P1302: what was handed in was changed, %v", e)
	}
	kept := slices.Clone(first)
	for i := range first {
		first[i] = api.Token{Kind: 8}
	}
	if !slices.Equal(whole, was) {
		t.Error("P1302: what is answered is not new memory")
	}
	second, _, _ := layout.Blocks(room)
	if !slices.Equal(second, kept) {
		t.Error("P1302: a second call tells something else")
	}
	for i := range whole {
		whole[i] = api.Token{}
	}
	if !slices.Equal(second, kept) {
		t.Error("P1302: what was handed in is kept")
	}
}

// No row of tokens brings a call down: here are some that lex does not tell.
func TestP1302AnyTokens(t *testing.T) {
	if l, at, e := layout.Blocks(nil); len(l) != 0 || at != 0 || e != api.OK {
		t.Errorf("P1302: %v, %d, %v", l, at, e)
	}
	word := func(text string, line, column int) api.Token {
		return api.Token{Kind: api.KWord, Text: text, At: line, Line: line, Col: column}
	}
	end := api.Token{Kind: api.KEnd}
	for _, l := range [][]api.Token{
		{{}}, {end, end}, {word("where", 0, 0)}, {end, word("}", 1, 1), word("in", 2, -3), word("{", 3, 3), word(";", 4, 4)},
		{end, word("let", 1, 1), word("a", 2, -5), word("in", 3, 9), end}, {word("let", -3, -3), word("{", -2, -9), word("}", -1, -1), end, word("where", 1, 1), end},
	} {
		layout.Blocks(l)
	}
	long := slices.Repeat([]api.Token{{Kind: api.KName, Text: "a", At: 7}}, 60001)
	if l, at, e := layout.Blocks(long); l != nil || at != 7 || e != api.ErrLong {
		t.Errorf("P1302: %d, %d, %v", len(l), at, e)
	}
}
