package lex_test

import (
	"reflect"
	"strings"
	"testing"
	"unicode/utf8"

	"telamon/api"
	"telamon/lex"
)

func TestP1201Word(t *testing.T) {
	list := strings.Split(allWords, " ")
	if len(list) != 26 {
		t.Fatalf("P1201: %d words", len(list))
	}
	for _, w := range list {
		if !lex.Word(w) {
			t.Errorf("P1201: %q is none", w)
		}
		for _, other := range []string{w + " ", " " + w, w + w, strings.ToUpper(w) + "X", w + "\x00", w + "."} {
			if lex.Word(other) {
				t.Errorf("P1201: %q is one", other)
			}
		}
	}
	for _, w := range []string{"", " ", "(", ")", "{", "}", ";", ",", "x", "set", "SET", "Module", "infi", "infixn", "*", "***", "-", "--", ">", "|", "::", "==", "0", "\xe2\x86", "\xff", "\u2190", "\u039b", "module where"} {
		if lex.Word(w) {
			t.Errorf("P1201: %q is one", w)
		}
	}
}

// told is a token without its place: n a name, w a word, # a number, $ the end.
func told(l []api.Token) string {
	var out []string
	for _, x := range l {
		sign, ok := map[int]string{api.KName: "n", api.KWord: "w", api.KNum: "#", api.KEnd: "$"}[x.Kind]
		if !ok {
			sign = "?"
		}
		out = append(out, sign+x.Text)
	}
	return strings.Join(out, " ")
}

func TestP1202Tokens(t *testing.T) {
	for s, want := range map[string]string{
		"":                        "$",
		" \n\n  ":                 "$",
		"f : Nat \u2192 Nat -- x": "nf w: nNat w-> nNat $",
		"x_+_y":                   "nx_+_y $",
		"a b\nc":                  "na nb nc $",
		"((a),{b};c)":             "w( w( na w) w, w{ nb w} w; nc w) $",
		"\u03bb x\u2192y \u2192":  `w\ nx→y w-> $`,
		`\x -> x`:                 `n\x w-> nx $`,
		`(\ x)`:                   `w( w\ nx w) $`,
		"->x x-> ->":              "n->x nx-> w-> $",
		"a:b : :: a=b =":          "na:b w: n:: na=b w= $",
		"_ __ _x x_ ** *":         "w_ n__ n_x nx_ w** n* $",
		"Set0 Set Set 0":          "nSet0 wSet wSet #0 $",
		"moduleM module":          "nmoduleM wmodule $",
		"M.where where.M where":   "nM.where nwhere.M wwhere $",
		"[a] | `b` ' \" # @":      "n[a] n| n`b` n' n\" n# n@ $",
	} {
		if l, at, e := lex.Tokens(s); e != api.OK || at != 0 || told(l) != want {
			t.Errorf("P1202: %q: %s, %d, %v", s, told(l), at, e)
		}
	}
}

// Each word by itself is one token, as it stands or as it is the same as; with anything else at it, a name.
func TestP1202Words(t *testing.T) {
	for _, w := range strings.Split(allWords, " ") {
		text := w
		switch w {
		case "→":
			text = "->"
		case "λ":
			text = `\`
		}
		if l, _, e := lex.Tokens("(" + w + ")"); e != api.OK || told(l) != "w( w"+text+" w) $" {
			t.Errorf("P1202: %s: %s, %v", w, told(l), e)
		}
		if l, _, e := lex.Tokens(w + "a b" + w + " " + w + w + w); e != api.OK || told(l) != "n"+w+"a nb"+w+" n"+w+w+w+" $" {
			t.Errorf("P1202: %s: %s, %v", w, told(l), e)
		}
	}
}

// Remarks begin where a token would, and end with the line.
func TestP1202Remarks(t *testing.T) {
	for s, want := range map[string]string{
		"--":              "$",
		"-->":             "$",
		"-- a\nb":         "nb $",
		"--\n--\n a--b":   "na--b $",
		"a -- b -- c\n;d": "na w; nd $",
		"(--x)\n)":        "w( w) $",
		"a;--;":           "na w; $",
		"- -a - -":        "n- n-a n- n- $",
		"a- -- b":         "na- $",
		"-":               "n- $",
		"a-- b":           "na-- nb $",
		"---- ..\nx":      "nx $",
		"x\n--":           "nx $",
		"-- \u00e9 \u2192 (a..b) 1234567890 " + strings.Repeat("c", 61): "$",
		"-- a\tb\x00\x7f\r\nc": "nc $",
	} {
		if l, at, e := lex.Tokens(s); e != api.OK || at != 0 || told(l) != want {
			t.Errorf("P1202: %q: %s, %d, %v", s, told(l), at, e)
		}
	}
}

func TestP1202Numbers(t *testing.T) {
	for s, want := range map[string]string{
		"0": "#0 $", "007": "#007 $", "000000000": "#000000000 $", "123456789": "#123456789 $", "1,2": "#1 w, #2 $",
		"-1": "n-1 $", "1a": "n1a $", "a1": "na1 $", "1_": "n1_ $", "1.2": "n1.2 $", "12345678901a": "n12345678901a $",
		"\u0661\u0662": "n\u0661\u0662 $", "\uff11": "n\uff11 $", "1\u00b2": "n1\u00b2 $",
	} {
		if l, at, e := lex.Tokens(s); e != api.OK || at != 0 || told(l) != want {
			t.Errorf("P1202: %q: %s, %d, %v", s, told(l), at, e)
		}
	}
	for _, s := range []string{"1234567890", "0000000000", strings.Repeat("1", 60), strings.Repeat("1", 61), strings.Repeat("1", 1000)} {
		if l, at, e := lex.Tokens("a (" + s + ")"); e != api.ErrToken || at != 3 || l != nil {
			t.Errorf("P1203: %s: %v, %d, %v", s, l, at, e)
		}
	}
}

// Names are counted in bytes; runes that are no signs of the language are all alike.
func TestP1202Names(t *testing.T) {
	for _, s := range []string{
		"a", "a.b", "a.b.c.d", "_._", "->.->", strings.Repeat("a", 60), strings.Repeat("\u2192", 20), strings.Repeat("\U0001f600", 15), strings.Repeat("a.", 29) + "ab",
		"\ufeff", "\ufffd", "a\ufffdb", "\u00a0", "\u0085", "\u2028", "\u3000", "\u0080", "\u07ff", "\u0800", "\ud7ff", "\ue000", "\uffff", "\U00010000", "\U0010ffff", "!", "~", "\u2024\u2024",
	} {
		if l, at, e := lex.Tokens(s); e != api.OK || at != 0 || told(l) != "n"+s+" $" {
			t.Errorf("P1202: %q: %s, %d, %v", s, told(l), at, e)
		}
	}
	for _, s := range []string{strings.Repeat("a", 61), strings.Repeat("\u2192", 20) + "a", strings.Repeat("\U0001f600", 16), strings.Repeat(".", 61), strings.Repeat("a.", 31), strings.Repeat("a", 65536), strings.Repeat("1", 60) + "a"} {
		if l, at, e := lex.Tokens(s); e != api.ErrLong || at != 0 || l != nil {
			t.Errorf("P1203: %.20q: %v, %d, %v", s, l, at, e)
		}
	}
	for _, s := range []string{".", "..", ".a", "a.", "a..b", "a...b", "a.b..c", "1.", ".1", "..\u2192", strings.Repeat("a", 59) + "."} {
		if l, at, e := lex.Tokens(" \u2192 " + s + " c"); e != api.ErrToken || at != 5 || l != nil {
			t.Errorf("P1203: %q: %v, %d, %v", s, l, at, e)
		}
	}
}

func TestP1203Places(t *testing.T) {
	for s, want := range map[string][]api.Token{
		"":   {{Kind: api.KEnd, Line: 1, Col: 1}},
		"\n": {{Kind: api.KEnd, At: 1, Line: 2, Col: 1}},
		"a\n \u00e9b c": {
			{Kind: api.KName, Text: "a", Line: 1, Col: 1}, {Kind: api.KName, Text: "\u00e9b", At: 3, Line: 2, Col: 2}, {Kind: api.KName, Text: "c", At: 7, Line: 2, Col: 5}, {Kind: api.KEnd, At: 8, Line: 2, Col: 6},
		},
		"\U0001f600 \u2192(1)-- \u00e9": {
			{Kind: api.KName, Text: "\U0001f600", Line: 1, Col: 1}, {Kind: api.KWord, Text: "->", At: 5, Line: 1, Col: 3}, {Kind: api.KWord, Text: "(", At: 8, Line: 1, Col: 4},
			{Kind: api.KNum, Text: "1", At: 9, Line: 1, Col: 5}, {Kind: api.KWord, Text: ")", At: 10, Line: 1, Col: 6}, {Kind: api.KEnd, At: 16, Line: 1, Col: 11},
		},
		"-- \u00e9\n\n  x\n": {{Kind: api.KName, Text: "x", At: 9, Line: 3, Col: 3}, {Kind: api.KEnd, At: 11, Line: 4, Col: 1}},
		"e\u0301 ;":          {{Kind: api.KName, Text: "e\u0301", Line: 1, Col: 1}, {Kind: api.KWord, Text: ";", At: 4, Line: 1, Col: 4}, {Kind: api.KEnd, At: 5, Line: 1, Col: 5}},
	} {
		if l, at, e := lex.Tokens(s); e != api.OK || at != 0 || !reflect.DeepEqual(l, want) {
			t.Errorf("P1203: %q: %+v, %d, %v", s, l, at, e)
		}
	}
}

type fault struct {
	at int
	e  api.Errno
}

func faults(t *testing.T, list map[string]fault) {
	for s, want := range list {
		if l, at, e := lex.Tokens(s); e != want.e || at != want.at || l != nil {
			t.Errorf("P1203: %.30q: %d tokens, %d, %v, not %v", s, len(l), at, e, want)
		}
	}
}

func TestP1203Controls(t *testing.T) {
	for b := range 128 {
		s := string(rune(b))
		wrong := b < 32 && b != 10 || b == 127
		for _, around := range []struct{ ahead, behind string }{{"", ""}, {"a", "b"}, {" ", " "}, {"\n", "\n"}, {"(", ")"}, {"-", ""}, {"\u2192 ", ""}, {"--\n", ""}} {
			_, at, e := lex.Tokens(around.ahead + s + around.behind)
			if wrong && (e != api.ErrToken || at != len(around.ahead)) || !wrong && b != '.' && e != api.OK {
				t.Errorf("P1203: byte %d behind %q: %d, %v", b, around.ahead, at, e)
			}
		}
	}
}

func TestP1203Order(t *testing.T) {
	faults(t, map[string]fault{
		"a..b \xff":                         {0, api.ErrToken},
		"a..b(\xff":                         {0, api.ErrToken},
		"a..b\n\t":                          {0, api.ErrToken},
		"a..b\xff":                          {4, api.ErrUTF},
		"a..b\t\xff":                        {4, api.ErrToken},
		"a..b\xff\t":                        {4, api.ErrUTF},
		"..\x7f":                            {2, api.ErrToken},
		"a --\xff\n..":                      {4, api.ErrUTF},
		"a --\t\n ..":                       {7, api.ErrToken},
		"-- \xc0\x80":                       {3, api.ErrUTF},
		"1234567890\xff":                    {10, api.ErrUTF},
		"1234567890 \xff":                   {0, api.ErrToken},
		strings.Repeat("b", 61) + "\xff":    {61, api.ErrUTF},
		strings.Repeat("b", 61) + "\x01":    {61, api.ErrToken},
		strings.Repeat("b", 61) + ";..":     {0, api.ErrLong},
		".. " + strings.Repeat("b", 61):     {0, api.ErrToken},
		"x; " + strings.Repeat("b", 61):     {3, api.ErrLong},
		strings.Repeat(".", 60):             {0, api.ErrToken},
		strings.Repeat(".", 61):             {0, api.ErrLong},
		"\u2192 \u2192.. \xe2":              {4, api.ErrToken},
		"\ufffd\ufffd \xef\xbf":             {7, api.ErrUTF},
		"--\ufffd\xef\xbf\n":                {5, api.ErrUTF},
		strings.Repeat("\xff", 65537):       {0, api.ErrLong},
		" .. " + strings.Repeat(" ", 65536): {0, api.ErrLong},
	})
}

func TestP1203Long(t *testing.T) {
	for s, count := range map[string]int{
		strings.Repeat(" ", 65536):                                     1,
		strings.Repeat("\n", 65536):                                    1,
		"--" + strings.Repeat("\u2192", 21844) + "ab":                  1,
		strings.Repeat(";", 19999):                                     20000,
		strings.Repeat("ab ", 19999):                                   20000,
		strings.Repeat(";", 19999) + strings.Repeat(" ", 45537):        20000,
		strings.Repeat(";", 19999) + "--" + strings.Repeat(";", 45535): 20000,
	} {
		if l, at, e := lex.Tokens(s); e != api.OK || at != 0 || len(l) != count {
			t.Errorf("P1203: %.20q: %d tokens, %d, %v", s, len(l), at, e)
		}
	}
	many := strings.Repeat(";", 20000)
	faults(t, map[string]fault{
		strings.Repeat(" ", 65537):             {0, api.ErrLong},
		"--" + strings.Repeat("\u2192", 21845): {0, api.ErrLong},
		many:                                   {20000, api.ErrLong},
		many + "  ":                            {20002, api.ErrLong},
		many + " --x\n":                        {20005, api.ErrLong},
		many + " --\xff\n":                     {20003, api.ErrUTF},
		many + " ; \xff":                       {20001, api.ErrLong},
		many + " a \xff":                       {20001, api.ErrLong},
		many + " a\xff":                        {20002, api.ErrUTF},
		many + " a\t":                          {20002, api.ErrToken},
		many + " ..":                           {20001, api.ErrToken},
		many + " 1234567890;":                  {20001, api.ErrToken},
		many + " " + strings.Repeat("b", 61):   {20001, api.ErrLong},
		strings.Repeat("a ", 20000):            {40000, api.ErrLong},
		strings.Repeat("\u2192 ", 8000) + many[8000:] + "x": {44000, api.ErrLong},
	})
}

// A byte that begins no rune is told where it stands, in runs and in remarks; all texts of two bytes, and those of three and four around each edge.
func TestP1203UTF(t *testing.T) {
	edges := []byte{0x00, 0x41, 0x7f, 0x80, 0x8f, 0x90, 0x9f, 0xa0, 0xbf, 0xc0, 0xc1, 0xc2, 0xdf, 0xe0, 0xed, 0xef, 0xf0, 0xf4, 0xf5, 0xff}
	look := func(b ...byte) {
		want := len(b)
		for i := 0; i < len(b); i += max(size(string(b[i:])), 1) {
			if size(string(b[i:])) == 0 {
				want = i
				break
			}
		}
		if (want == len(b)) != utf8.Valid(b) {
			t.Errorf("% x: the test's own reading is wrong", b)
		}
		for _, ahead := range []string{"--", "-- \u2192 "} {
			_, at, e := lex.Tokens(ahead + string(b))
			if want < len(b) && (e != api.ErrUTF || at != len(ahead)+want) || want == len(b) && e != api.OK {
				t.Fatalf("P1203: % x behind %q: %d, %v", b, ahead, at, e)
			}
		}
	}
	for a := range 256 {
		if a == '\n' {
			continue
		}
		look(byte(a))
		for b := range 256 {
			if b != '\n' {
				look(byte(a), byte(b))
			}
		}
		for _, b := range edges {
			for _, c := range edges {
				look(byte(a), b, c)
				for _, d := range edges {
					if a > 0xee {
						look(byte(a), b, c, d)
					}
				}
			}
		}
	}
	for _, bad := range []string{"\x80", "\xbf", "\xc0\x80", "\xc1\xbf", "\xe0\x80\x80", "\xe0\x9f\xbf", "\xed\xa0\x80", "\xed\xbf\xbf", "\xf0\x80\x80\x80", "\xf0\x8f\xbf\xbf", "\xf4\x90\x80\x80", "\xf5\x80\x80\x80", "\xff", "\xfe", "\xe2\x86", "\xe2", "\xf0\x9f\x98"} {
		faults(t, map[string]fault{bad: {0, api.ErrUTF}, "a" + bad: {1, api.ErrUTF}, " (" + bad + ")": {2, api.ErrUTF}, "\u2192\n" + bad + " ..": {4, api.ErrUTF}, "x --\u00e9" + bad + "\n": {6, api.ErrUTF}})
	}
}

const file = "module M where\n  f : Nat \u2192 Nat -- x\n  f n = \u03bb x -> (n, 12)\n"

func TestP1204Memory(t *testing.T) {
	first, _, _ := lex.Tokens(file)
	want, _, _ := lex.Tokens(file)
	for i := range first {
		first[i] = api.Token{Kind: 99, Text: "?"}
	}
	if again, _, e := lex.Tokens(file); e != api.OK || !reflect.DeepEqual(again, want) {
		t.Errorf("P1204: what was answered is kept: %+v", again)
	}
	lex.Tokens("\xff")
	lex.Tokens(strings.Repeat(";", 20000))
	if again, at, e := lex.Tokens(file); e != api.OK || at != 0 || !reflect.DeepEqual(again, want) {
		t.Errorf("P1204: an error ahead is told again: %d, %v", at, e)
	}
}

// Calls that run at the same time do not meet.
func TestP1204SideBySide(t *testing.T) {
	want, _, _ := naive(file)
	done := make(chan bool)
	for range 20 {
		go func() {
			l, at, e := lex.Tokens(file)
			_, bad, wrong := lex.Tokens(file + "..")
			done <- e == api.OK && at == 0 && reflect.DeepEqual(l, want) && bad == len(file) && wrong == api.ErrToken && lex.Word("where")
		}()
	}
	for range 20 {
		if !<-done {
			t.Error("P1204: another answer")
		}
	}
}
