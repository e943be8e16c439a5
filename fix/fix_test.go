package fix_test

import (
	"strings"
	"testing"

	"telamon/api"
	"telamon/fix"
	"telamon/gram"
)

func parsed(t *testing.T, s string) []api.Stmt {
	t.Helper()
	l, at, e := gram.Parse(s)
	if e != api.OK {
		t.Fatalf("%.200q: %d, %v", s, at, e)
	}
	return l
}

// tabled: the table of each text's statements is that text.
func tabled(t *testing.T, rows map[string]string) {
	t.Helper()
	for s, want := range rows {
		l, at, e := fix.Table(parsed(t, s))
		if got := showOps(l); got != want || at != 0 || e != api.OK {
			t.Errorf("P1501: %q: %s, %d, %v, not %s", s, got, at, e, want)
		}
	}
}

// tableRefused: the error's place stands in the text as a `!` that is none of it. Resolve tells the same.
func tableRefused(t *testing.T, e api.Errno, rows ...string) {
	t.Helper()
	for _, s := range rows {
		at := strings.Index(s, "!")
		l := parsed(t, s[:at]+s[at+1:])
		if ops, place, got := fix.Table(l); ops != nil || place != at || got != e {
			t.Errorf("P1501: %q: %s, %d, %v, not %v", s, showOps(ops), place, got, e)
		}
		if out, place, got := fix.Resolve(l); out != nil || place != at || got != e {
			t.Errorf("P1503: %q: %s, %d, %v, not %v", s, showStmts(out), place, got, e)
		}
	}
}

func TestP1501Names(t *testing.T) {
	tabled(t, map[string]string{
		"": "", "a : A": "", "a b.c : A": "",
		"_+_ : A":                    "_+_ 20 <[+]>",
		"if_then_else_ : A":          "if_then_else_ 20 [if then else]>",
		"[_] : A":                    "[_] 20 [[ ]]",
		"a_ : A":                     "a_ 20 [a]>",
		"_a : A":                     "_a 20 <[a]",
		"_a_b : A":                   "_a_b 20 <[a b]",
		"a_b_c : A":                  "a_b_c 20 [a b c]",
		"_a_b_c_d_ : A":              "_a_b_c_d_ 20 <[a b c d]>",
		"\u00e9_\u2237 _\u2237_ : A": "\u00e9_\u2237 20 [\u00e9 \u2237]; _\u2237_ 20 <[\u2237]>",
		"_where_in : A":              "_where_in 20 <[where in]",
		"_a.b_ : A":                  "_a.b_ 20 <[a.b]>",
		"_1 2_ : A":                  "_1 20 <[1]; 2_ 20 [2]>",
	})
}

func TestP1501Declared(t *testing.T) {
	tabled(t, map[string]string{
		"a_ b _c a_ : A":                                   "a_ 20 [a]>; _c 20 <[c]",
		"c_ : A\nb_ : A\na_ : A\nb_ : A":                   "c_ 20 [c]>; b_ 20 [b]>; a_ 20 [a]>",
		"data _D_ : A where\n  k_ _k : A\n  c : A\n_e : A": "_D_ 20 <[D]>; k_ 20 [k]>; _k 20 <[k]; _e 20 <[e]",
		"data D : A where\n  k_ : A":                       "k_ 20 [k]>",
		"postulate\n  a_ : A\n  b_ c_ : A":                 "a_ 20 [a]>; b_ 20 [b]>; c_ 20 [c]>",
		"private\n  a_ : A\nb_ : A":                        "a_ 20 [a]>; b_ 20 [b]>",
		"module M where\n  private\n    module N where\n      data a_ : A where\n        b_ : A\n  c_ : A\nd_ : A": "a_ 20 [a]>; b_ 20 [b]>; c_ 20 [c]>; d_ 20 [d]>",
		// What declares no operator.
		"a_ = b":                                            "",
		"f a_ b_ = a_ b_":                                   "",
		"module _M_ (a_ : A) where\n  b : A":                "",
		"data D (a_ : A) {_b : A} : A where":                "",
		"f : (a_ : A) -> B":                                 "",
		"f = \\ a_ {_b} -> let c_ : A = b in c_":            "",
		"open M using (a_) hiding (b_) renaming (c_ to d_)": "",
	})
}

func TestP1501How(t *testing.T) {
	tabled(t, map[string]string{
		"a_ : A\ninfix 5 a_":                   "a_ 5 [a]>",
		"infixl 0 a_\na_ : A":                  "a_ 0l [a]>",
		"infixr 100 a_\nb_ a_ : A":             "b_ 20 [b]>; a_ 100r [a]>",
		"a_ _b c _d_ : A\ninfixl 7 _d_ a_":     "a_ 7l [a]>; _b 20 <[b]; _d_ 7l <[d]>",
		"a_ b_ : A\ninfixl 7 b_\ninfixr 8 a_":  "a_ 8r [a]>; b_ 7l [b]>",
		"a_ : A\nmodule M where\n  infix 5 a_": "a_ 5 [a]>",
		"infix 20 a_\nmodule M where\n  private\n    data D : A where\n      a_ : A": "a_ 20 [a]>",
		"data _D_ : A where\n  _k_ : A\ninfixr 2 _k_ _D_":                            "_D_ 2r <[D]>; _k_ 2r <[k]>",
		"infixl 3 [_]\n[_] : A": "[_] 3l [[ ]]",
	})
}

func TestP1501Errors(t *testing.T) {
	tableRefused(t, api.ErrOperator,
		"!a__b : A", "!__a : A", "!a__ : A", "!__ : A", "!___ : A", "!_a__b_ : A", "!a b_ c__ : A",
		"!data a__b : A where", "data D : A where\n  a : A\n  !a__ : A", "!data __ : A where\n  a__ : A", "postulate\n  a : A\n  !b __ : A", "private\n  !a__ : A", "module M where\n  a_ : A\n  private\n    !a__ : A",
		"a_ : A\n!infix 101 a_", "!infixl 999999999 a_\na_ : A", "!infixr 101 a", "a_ : A\ninfix 5 a_\n!infix 101 a_",
	)
	tableRefused(t, api.ErrScope,
		"!infix 5 a_", "a : A\n!infix 5 a", "!infix 5 a\na : A", "a_ : A\n!infix 5 a_ b_", "a_ : A\n!infix 5 b_ a_", "a_ : A\n!infix 5 a", "a_ : A\n!infix 5 _a", "a_ = b\n!infix 5 a_", "!infix 5 M.a_\nmodule M where\n  a_ : A",
		"module _M where\n!infix 5 _M", "f : (a_ : A) -> B\n!infix 5 a_", "!infix 5 __", "!infix 5 a__\na__b : A",
		"a_ : A\ninfix 5 a_\n!infix 5 a_ b_", "a_ : A\ninfix 5 a_\n!infix 5 b_ a_",
	)
	tableRefused(t, api.ErrClash,
		"a_ : A\ninfix 5 a_\n!infix 5 a_", "infix 5 a_\n!infix 6 a_\na_ : A", "a_ b_ : A\ninfixl 5 a_\n!infix 5 b_ a_", "a_ : A\nmodule M where\n  infix 5 a_\n!infix 5 a_", "a_ : A\nprivate\n  infix 5 a_\nmodule M where\n  !infix 5 a_",
		"a_ : A\n!infix 5 a_ a_",
	)
	// Of several the first one, statements in order.
	tableRefused(t, api.ErrOperator, "!a__ : A\ninfix 5 b_", "module M where\n  !a__ : A\ninfix 101 b_", "!infix 101 a_\na__ : A\ninfix 5 b_", "x = + +\n!a__ : A", "infix 5 a__\n!a__ : A", "infix 5 __\n!__ : A")
	tableRefused(t, api.ErrScope, "!infix 5 b_\na__ : A", "x = (+ +)\nmodule M where\n  !infix 5 b_\na__ : A")
	tableRefused(t, api.ErrClash, "infix 5 a_\n!infix 5 a_\na_ : A\ninfix 101 b_")
}

// Statements that no file comes to.
func TestP1501HandedIn(t *testing.T) {
	name := func(l ...string) api.Stmt { return api.Stmt{Form: api.SType, Names: l, At: 7} }
	sub := []api.Stmt{name("s_")}
	rows := []struct {
		l    []api.Stmt
		want string
		e    api.Errno
	}{
		{[]api.Stmt{name("_")}, "", api.ErrOperator},
		{[]api.Stmt{name("a", "__")}, "", api.ErrOperator},
		{[]api.Stmt{{Form: api.SData, Name: "_", At: 7}}, "", api.ErrOperator},
		{[]api.Stmt{name("", " ", "_ _", "a\xff_\xffb")}, "_ _ 20 <[ ]>; a\xff_\xffb 20 [a\xff \xffb]", api.OK},
		{[]api.Stmt{name("\xff_", "_\xc3", "\xe2\x88_b")}, "\xff_ 20 [\xff]>; _\xc3 20 <[\xc3]; \xe2\x88_b 20 [\xe2\x88 b]", api.OK},
		{[]api.Stmt{name(), name("a_"), {Form: api.SFix, N: -3, Assoc: "l", Names: []string{"a_"}}}, "a_ -3l [a]>", api.OK},
		{[]api.Stmt{name("a_"), {Form: api.SFix, N: -1 << 63, Assoc: "x"}}, "a_ 20 [a]>", api.OK},
		{[]api.Stmt{name("a_"), {Form: api.SFix, N: 101, At: 7}}, "", api.ErrOperator},
		// Fields that are not of the form are not looked at.
		{[]api.Stmt{{Form: api.SType, Name: "a_", Sub: sub}, {Form: api.SClause, Names: []string{"b_"}, Name: "c_", Sub: sub}, {Form: api.SData, Name: "D", Names: []string{"d_"}}}, "", api.OK},
		{[]api.Stmt{{Form: api.SOpen, Name: "a_", Names: []string{"b_"}, Sub: sub}, {Form: api.SModule, Name: "m__", Names: []string{"c__"}, Sub: sub}}, "s_ 20 [s]>", api.OK},
		{[]api.Stmt{{Form: api.SFix, Name: "a_", Sub: sub}, {Form: api.SPriv, Name: "b_", Names: []string{"c_"}}, {Form: 0, Names: []string{"d_"}, Sub: sub}, {Form: 10, Name: "e_", N: 101}, {Form: -1, Names: []string{"__"}}}, "", api.OK},
	}
	for _, row := range rows {
		wantAt := map[bool]int{true: 7}[row.e != api.OK]
		l, at, e := fix.Table(row.l)
		if got := showOps(l); got != row.want || at != wantAt || e != row.e {
			t.Errorf("P1501: %+v: %s, %d, %v, not %s, %v", row.l, got, at, e, row.want, row.e)
		}
	}
}
